
/-
  Parcels that only refer: rows of them, what append takes of them. Package bag: To. The document's side: To. barrowkeep.SpoilInts.
-/
import Derived.Test.YtdojjhhnciaegaaDoorZb28
import Derived.Test.YtdojjhhnciaegaaDoorZb39
import Derived.Test.YtdojjhhnciaegaaDoorZb40
import Derived.Test.YtdojjhhnciaegaaDoorZb30
namespace Go.Proofs.YtdojjhhnciaegaaDoor
open Go.RowKit Go.Extern.Stop Go.Stop Go.Extern
set_option maxRecDepth 100000

/-- Parcels whose bytes lie anywhere. -/
def PsR (ps : List Pc) (l : List Pl) (w : World) : Prop := ps.length = l.length ∧ ∀ (i : Nat) (p : Pc) (q : Pl), ps[i]? = some p → l[i]? = some q → PcR p q w ∧ q.bs.length ≤ 140737488351232
theorem PsR.later {ps : List Pc} {l : List Pl} {w w' : World} (h : PsR ps l w) (hb : Below w.heap.size w w') : PsR ps l w' := ⟨h.1, fun i p q h1 h2 => ⟨(h.2 i p q h1 h2).1.later hb, (h.2 i p q h1 h2).2⟩⟩
theorem PsR.take {ps : List Pc} {qs : List Pl} {w : World} (h : PsR ps qs w) (n : Nat) : PsR (ps.take n) (qs.take n) w := ⟨by rw [List.length_take, List.length_take, h.1], fun i p q h1 h2 => by
  rw [List.getElem?_take] at h1 h2
  split at h1
  next e => rw [if_pos e] at h2; exact h.2 i p q h1 h2
  next => cases h1⟩
theorem PsR.drop {ps : List Pc} {qs : List Pl} {w : World} (h : PsR ps qs w) (n : Nat) : PsR (ps.drop n) (qs.drop n) w := ⟨by rw [List.length_drop, List.length_drop, h.1], fun i p q h1 h2 => by
  rw [List.getElem?_drop] at h1 h2
  exact h.2 _ p q h1 h2⟩
theorem PsR.app {ps ps' : List Pc} {qs qs' : List Pl} {w : World} (h : PsR ps qs w) (h' : PsR ps' qs' w) : PsR (ps ++ ps') (qs ++ qs') w := by
  refine ⟨by rw [List.length_append, List.length_append, h.1, h'.1], fun i p q h1 h2 => ?_⟩
  by_cases e : i < ps.length
  · rw [List.getElem?_append_left e] at h1
    rw [List.getElem?_append_left (by rw [← h.1]; exact e)] at h2
    exact h.2 i p q h1 h2
  · rw [List.getElem?_append_right (by omega)] at h1
    rw [List.getElem?_append_right (by rw [← h.1]; omega), ← h.1] at h2
    exact h'.2 _ p q h1 h2
theorem PsR.one {p : Pc} {q : Pl} {w : World} (h : PcR p q w) (hl : q.bs.length ≤ 140737488351232) : PsR [p] [q] w := ⟨rfl, fun i p' q' h1 h2 => by
  match i, h1, h2 with
  | 0, h1, h2 => cases h1; cases h2; exact ⟨h, hl⟩
  | i + 1, h1, h2 => simp at h1⟩
theorem PsR.set {ps : List Pc} {qs : List Pl} {w : World} (h : PsR ps qs w) (i : Nat) {p : Pc} {q : Pl} (hp : PcR p q w) (hl : q.bs.length ≤ 140737488351232) : PsR (ps.set i p) (qs.set i q) w := ⟨by rw [List.length_set, List.length_set, h.1], fun k p' q' h1 h2 => by
  by_cases e : i = k
  · subst e
    have hi : i < ps.length := by have := (List.getElem?_eq_some_iff.1 h1).1; rwa [List.length_set] at this
    rw [List.getElem?_set_self hi] at h1
    rw [List.getElem?_set_self (by rw [← h.1]; exact hi)] at h2
    cases h1; cases h2
    exact ⟨hp, hl⟩
  · rw [List.getElem?_set_ne e] at h1 h2
    exact h.2 k p' q' h1 h2⟩
theorem PsR.ones {ps : List Pc} {qs : List Pl} {w : World} (h : PsR ps qs w) : ∀ p ∈ ps, p.b.oneCell' = true := fun p hp => by
  obtain ⟨i, hi⟩ := List.getElem?_of_mem hp
  have hl := (List.getElem?_eq_some_iff.1 hi).1
  obtain ⟨q, hq⟩ : ∃ q, qs[i]? = some q := ⟨_, List.getElem?_eq_getElem (by rw [← h.1]; exact hl)⟩
  exact (h.2 i p q hi hq).1.b.one
theorem SlQ.take {w : World} {a : Option Addr} {c : Nat} {l : List Pl} (h : SlQ w (.slice a l.length c) l) {n : Nat} (hn : n ≤ l.length) : SlQ w (.slice a n c) (l.take n) := by
  rcases h with ⟨rfl, a', c', e⟩ | ⟨g, o_, c', ps, e, h1, h2⟩
  · have : n = 0 := by simpa using hn
    subst this
    exact .inl ⟨rfl, _, _, rfl⟩
  · cases e
    refine .inr ⟨g, o_, c, ps.take n, by rw [List.length_take, Nat.min_eq_left hn], by rw [List.length_take, List.length_take, h1], fun i p q hp hq => ?_⟩
    rw [List.getElem?_take] at hp hq
    split at hp
    next e => rw [if_pos e] at hq; exact h2 i p q hp hq
    next => cases hp
/-- The parcels of some that only are read. -/
theorem SlQ.ps {w : World} {g o_ c : Nat} {l : List Pl} (h : SlQ w (.slice (some ⟨g, o_, none⟩) l.length c) l) (hl : 0 < l.length) : ∃ ps, PsR ps l w ∧ ∀ (i : Nat) (p : Pc), ps[i]? = some p → CsIn g (o_ + i * 4) (pcv p) w := by
  rcases h with ⟨rfl, _⟩ | ⟨g', o', c', ps, e, h1, h2⟩
  · simp at hl
  · cases e
    refine ⟨ps, ⟨h1, fun i p q hp hq => ⟨(h2 i p q hp hq).1, (h2 i p q hp hq).2.1⟩⟩, fun i p hp => ?_⟩
    have hi := (List.getElem?_eq_some_iff.1 hp).1
    exact (h2 i p _ hp (List.getElem?_eq_getElem (by omega))).2.2
theorem so_rest {w : World} {g o_ : Nat} {ps : List Pc} (h : ∀ (i : Nat) (p : Pc), ps[i]? = some p → CsIn g (o_ + i * 4) (pcv p) w) (n c' : Nat) : So 4 (.slice (some ⟨g, o_ + n * 4, none⟩) (ps.length - n) c') (ps.length - n) (pcells (ps.drop n)) w := by
  refine ⟨by rw [pcells_len, List.length_drop], .inr ⟨_, _, rfl, fun j x hx => ?_⟩⟩
  obtain ⟨a, e, k, e1, rfl, e3⟩ := pcells_of _ _ _ hx
  rw [List.getElem?_drop] at e1
  have := (h _ e e1).2 k x e3
  rw [Addr.add_lit]
  rw [show o_ + n * 4 + (a * 4 + k) = o_ + (n + a) * 4 + k by omega]
  exact this
theorem SlQ.of_rw {w : World} {u : Value} {l : List Pl} {ps : List Pc} (h : Rw 65 4 u l.length (pcells ps) w) (hp : PsR ps l w) : SlQ w u l := by
  obtain ⟨a, c, rfl, _, _⟩ := h.form
  rcases h.2 with ⟨q, h0⟩ | ⟨g, cap, cur, q, hg, h1, h2, h3, h4⟩
  · exact .inl ⟨List.eq_nil_of_length_eq_zero h0, a, c, by rw [h0]⟩
  · cases q
    refine .inr ⟨g, 0, c, ps, rfl, hp.1, fun i p r hpp hr => ⟨(hp.2 i p r hpp hr).1, (hp.2 i p r hpp hr).2, (Array.getElem?_eq_some_iff.1 hg).1, fun j u hu => ?_⟩⟩
    have := h.cells _ _ (pcells_at ps i p hpp j u hu)
    rw [Nat.add_assoc]
    exact this
theorem right_split (l : List Pl) : RightTo l l.length ∨ ∃ (i : Nat) (q : Pl), l[i]? = some q ∧ rightP q = false ∧ RightTo l i := by
  have key : ∀ n, n ≤ l.length → RightTo l n ∨ ∃ (i : Nat) (q : Pl), l[i]? = some q ∧ rightP q = false ∧ RightTo l i := fun n => by
    induction n with
    | zero => exact fun _ => .inl fun j q hj => by omega
    | succ n ih =>
      intro hn
      rcases ih (by omega) with h | h
      · obtain ⟨q, hq⟩ : ∃ q, l[n]? = some q := ⟨_, List.getElem?_eq_getElem (by omega)⟩
        cases e : rightP q
        · exact .inr ⟨n, q, hq, e, h⟩
        · refine .inl fun j r hj hr => ?_
          by_cases ej : j = n
          · subst ej
            rw [hq] at hr
            cases hr
            exact e
          · exact h j r (by omega) hr
      · exact .inr h
  exact key _ (Nat.le_refl _)
theorem right_same {l : List Pl} {i i' : Nat} {q q' : Pl} (h : l[i]? = some q) (hb : rightP q = false) (ht : RightTo l i) (h' : l[i']? = some q') (hb' : rightP q' = false) (ht' : RightTo l i') : i = i' := by
  by_cases e : i < i'
  · have := ht' i q e h
    rw [hb] at this
    cases this
  · by_cases e' : i' < i
    · have := ht i' q' e' h'
      rw [hb'] at this
      cases this
    · omega
end Go.Proofs.YtdojjhhnciaegaaDoor
namespace Go.Proofs.YtdojjhhnciaegaaDoor
open Go.RowKit Go.Extern.Stop Go.Stop Go.Extern
set_option maxRecDepth 100000

/-- The places of the parcels to one. -/
def plc (t : Int) (l : List Pl) : List Int := l.zipIdx.filterMap fun x => if x.1.t = t then some (x.2 : Int) else none
theorem plc_app (t : Int) (l : List Pl) (q : Pl) : plc t (l ++ [q]) = plc t l ++ (if q.t = t then [(l.length : Int)] else []) := by
  unfold plc
  rw [List.zipIdx_append, List.filterMap_append]
  congr 1
  by_cases h : q.t = t
  · simp [h]
  · simp [h]
theorem plc_len (t : Int) : ∀ (l : List Pl), (plc t l).length ≤ l.length := fun l => by
  unfold plc
  exact Nat.le_trans (List.length_filterMap_le _ _) (by simp)
set_option maxHeartbeats 4000000 in
theorem to_is {B : Nat} {v : Value} {g : Bg} {K : Nat → Prop} {w : World} (h : BgAt B v g K w) (t : Int) :
    Calls Tryd.prog 38 #[.pointer (some ⟨B, 0, none⟩), .int .i64 t] w fun e w' => ∃ u, e = .returned u ∧ Rw 3 1 u (plc t g.l).length (ints (plc t g.l)) w' ∧ (∀ k, u.ownBlock = some k → w.heap.size ≤ k) ∧ Below w.heap.size w w' := by
  obtain ⟨i0, hi0, hz0, hz1, hz2⟩ := info_parts infoInt
  have HI := hid_of' (And.intro hi0 (And.intro hz0 (And.intro hz1 hz2)))
  obtain ⟨a9, c9, rfl⟩ := h.slice
  have c1 := h.lies.cellIs 1 rfl
  have hl4 : g.l.length ≤ 4096 := by have := h.room; have := h.most1; omega
  have H := hid_of' h
  clear h hi0 hz0 hz1 hz2
  go_enter Tryd.func38, Tryd.ntmps38
  go_wp2
  clear c1
  go_loopw [5, 13] (fun pv kv wr => ∃ (k : Nat), kv = .int .i64 (k : Int) ∧ k ≤ g.l.length ∧ Rw 3 1 pv (plc t (g.l.take k)).length (ints (plc t (g.l.take k))) wr ∧ (∀ b, pv.ownBlock = some b → w.heap.size ≤ b) ∧ Below w.heap.size w wr) (fun _ kv _ => g.l.length - (intOf kv).toNat)
  case atStart => exact ⟨0, rfl, by omega, by simpa [plc, ints] using Rw.nil _ _ _, fun b hb => (by cases hb), Below.refl _ _⟩
  case round =>
    rename_i wr
    obtain ⟨k, rfl, hk, hR, hlo, hB⟩ := hrel
    obtain ⟨pa, pc, hpv, _, _⟩ := hR.form
    subst hpv
    obtain ⟨M, hM⟩ : ∃ M, (plc t (g.l.take k)).length = M := ⟨_, rfl⟩
    have hMk : M ≤ k := by have := plc_len t (g.l.take k); rw [List.length_take] at this; omega
    rw [hM] at hR hlo ⊢
    have HX := hid_of' (And.intro hR (And.intro hlo (And.intro hB hM)))
    clear hR hlo hB hM
    by_cases hkl : k < g.l.length
    · have hki : (k : Int) < (g.l.length : Int) := by omega
      obtain ⟨q, hq⟩ : ∃ q, g.l[k]? = some q := ⟨_, List.getElem?_eq_getElem hkl⟩
      obtain ⟨g9, c9', p, e9, _, _, hin, hpq, _⟩ := H.out.row.at hq
      cases e9
      have HIn := hid_of' (hin.later HX.out.2.2.1)
      have HP1 : p.b.oneCell' = true := hpq.b.sl.one
      have hpt : p.t = q.t := hpq.t
      clear hin hpq
      go_upto_region 5 with (first | (refine wpL_loadP (p := p) rfl _ rfl rfl HIn.out ?_) | (refine wpL_stNewP (p := p) rfl _ _ rfl rfl rfl rfl rfl rfl HP1 ?_; go_simp))
      have r5 := row_new wr (pcv p) 65
      have hb5 := below_one wr (.cells (pcv p) 65)
      generalize wr.alloc (.cells (pcv p) 65) = w5 at r5 hb5 ⊢
      have c2 : w5.cell? ⟨wr.heap.size, 2, none⟩ = some (.int .i64 p.t) := r5.cellIs 2 rfl
      have H5 := hid_of' (And.intro (HX.out.1.later hb5) (bgo HX.out.2.2.1 hb5))
      have HQ := hid_of' (And.intro hq hpt)
      clear r5 hb5 hq hpt
      by_cases ht : p.t = t
      · have HS := hid_of' (And.intro (H5.out.1.later (below_one w5 (.cells #[.int .i64 (k : Int)] 3))) (so_int w5 (k : Int)))
        go_upto_region 7 with (at_builtin; refine wpL_app (P := Tryd.prog) rfl _ _ 30 rfl 3 i0 _ 1 8 Tryd.underlying30 HI.out.1 HI.out.2.1 HI.out.2.2.1 HI.out.2.2.2 rfl rfl rfl HS.out.1 HS.out.2 (ints_one _) (by unfold maxLen; omega) (by omega) ?_; intro u6 w6 q1 q2 q3)
        obtain ⟨ua, uc, hu, _, _⟩ := q1.form
        subst hu
        have hs5 := H5.out.2.size
        have gx := grown_ch q2
        have hb6 : Below w.heap.size w w6 := by
          have hb := bgo H5.out.2 (below_one w5 (.cells #[.int .i64 (k : Int)] 3))
          exact hb.trans (gx.below (fun s hs e => by have := HX.out.2.1 s e; omega) hb.size)
        have hlo6 : ∀ b, Value.ownBlock (.slice ua (M + 1) uc) = some b → w.heap.size ≤ b := fun b hb => by
          rcases q3 b hb with q | q
          · exact HX.out.2.1 b q
          · rw [World.size_alloc] at q; omega
        have HY := hid_of' (And.intro q1 (And.intro hlo6 hb6))
        clear q1 q2 q3 gx hb6 hlo6 c2
        go_wp2
        go_roundw
        case rel =>
          have e : plc t (g.l.take (k + 1)) = plc t (g.l.take k) ++ [(k : Int)] := by
            rw [take_one HQ.out.1, plc_app, if_pos (HQ.out.2.symm.trans ht), List.length_take, Nat.min_eq_left (by omega)]
          refine ⟨k + 1, by go_num, by omega, ?_, HY.out.2.1, HY.out.2.2⟩
          rw [e, List.length_append, HX.out.2.2.2]
          have := HY.out.1
          simpa [ints] using this
        case measure => simp [intOf]; omega
      · go_wp2
        go_roundw
        case rel =>
          have e : plc t (g.l.take (k + 1)) = plc t (g.l.take k) := by
            rw [take_one HQ.out.1, plc_app, if_neg (fun e => ht (HQ.out.2.trans e)), List.append_nil]
          refine ⟨k + 1, by go_num, by omega, ?_, HX.out.2.1, H5.out.2⟩
          rw [e, HX.out.2.2.2]
          exact H5.out.1
        case measure => simp [intOf]; omega
    · have hki : ¬ (k : Int) < (g.l.length : Int) := by omega
      have hkk : g.l.take k = g.l := by rw [List.take_of_length_le]; omega
      have HK := hid_of' hkk
      clear hkk
      go_wp2
      go_ret
      have h1 := HX.out.1
      have h2 := HX.out.2.2.2
      rw [HK.out] at h1 h2
      exact ⟨_, rfl, by rw [h2]; exact h1, HX.out.2.1, HX.out.2.2.1⟩
end Go.Proofs.YtdojjhhnciaegaaDoor
namespace Go.Proofs.YtdojjhhnciaegaaDoor
open Go.RowKit Go.Extern.Stop Go.Stop Go.Extern
set_option maxRecDepth 100000

set_option maxHeartbeats 4000000 in
theorem refTo_is {B : Nat} {v : Value} {g : Bg} {K : Nat → Prop} {w : World} (h : RgAt B v g K w) (t : Int) :
    Calls Tryd.prog 39 #[.pointer (some ⟨B, 0, none⟩), .int .i64 t] w fun e w' => ∃ u, e = .returned u ∧ Rw 3 1 u (plc t g.l).length (ints (plc t g.l)) w' ∧ (∀ k, u.ownBlock = some k → w.heap.size ≤ k) ∧ Below w.heap.size w w' := by
  obtain ⟨i0, hi0, hz0, hz1, hz2⟩ := info_parts infoInt
  have HI := hid_of' (And.intro hi0 (And.intro hz0 (And.intro hz1 hz2)))
  obtain ⟨a9, c9, rfl⟩ := h.slice
  have hl4 : g.l.length ≤ 4096 := by have := h.room; have := h.most1; omega
  have H := hid_of' h
  clear h hi0 hz0 hz1 hz2
  go_enter Tryd.func39, Tryd.ntmps39
  go_wp2
  go_loopw [5, 6] (fun pv kv wr => ∃ (k : Nat), kv = .int .i64 (k : Int) ∧ k ≤ g.l.length ∧ Rw 3 1 pv (plc t (g.l.take k)).length (ints (plc t (g.l.take k))) wr ∧ (∀ b, pv.ownBlock = some b → w.heap.size ≤ b) ∧ Below w.heap.size w wr) (fun _ kv _ => g.l.length - (intOf kv).toNat)
  case atStart => exact ⟨0, rfl, by omega, by simpa [plc, ints] using Rw.nil _ _ _, fun b hb => (by cases hb), Below.refl _ _⟩
  case round =>
    rename_i wr
    obtain ⟨k, rfl, hk, hR, hlo, hB⟩ := hrel
    obtain ⟨pa, pc, hpv, _, _⟩ := hR.form
    subst hpv
    obtain ⟨M, hM⟩ : ∃ M, (plc t (g.l.take k)).length = M := ⟨_, rfl⟩
    have hMk : M ≤ k := by have := plc_len t (g.l.take k); rw [List.length_take] at this; omega
    rw [hM] at hR hlo ⊢
    have HX := hid_of' (And.intro hR (And.intro hlo (And.intro hB hM)))
    clear hR hlo hB hM
    have c2 : wr.cell? ⟨B, 2, none⟩ = some (.slice a9 g.l.length c9) := (H.out.lies.later HX.out.2.2.1).cellIs 2 rfl
    by_cases hkl : k < g.l.length
    · have hki : (k : Int) < (g.l.length : Int) := by omega
      obtain ⟨q, hq⟩ : ∃ q, g.l[k]? = some q := ⟨_, List.getElem?_eq_getElem hkl⟩
      obtain ⟨g9, c9', p, e9, _, _, hin, hpq, _⟩ := H.out.row.at hq
      cases e9
      have hin' := hin.later HX.out.2.2.1
      have c3 : wr.cell? ⟨g9, k * 4 + 2, none⟩ = some (.int .i64 p.t) := hin'.2 2 _ rfl
      have H5 := hid_of' (And.intro HX.out.1 HX.out.2.2.1)
      have HQ := hid_of' (And.intro hq hpq.t)
      clear hin hin' hpq hq
      by_cases ht : p.t = t
      · have HS := hid_of' (And.intro (H5.out.1.later (below_one wr (.cells #[.int .i64 (k : Int)] 3))) (so_int wr (k : Int)))
        go_upto_region 4 with (at_builtin; refine wpL_app (P := Tryd.prog) rfl _ _ 30 rfl 3 i0 _ 1 8 Tryd.underlying30 HI.out.1 HI.out.2.1 HI.out.2.2.1 HI.out.2.2.2 rfl rfl rfl HS.out.1 HS.out.2 (ints_one _) (by unfold maxLen; omega) (by omega) ?_; intro u6 w6 q1 q2 q3)
        obtain ⟨ua, uc, hu, _, _⟩ := q1.form
        subst hu
        have hs5 := H5.out.2.size
        have gx := grown_ch q2
        have hb6 : Below w.heap.size w w6 := by
          have hb := bgo H5.out.2 (below_one wr (.cells #[.int .i64 (k : Int)] 3))
          exact hb.trans (gx.below (fun s hs e => by have := HX.out.2.1 s e; omega) hb.size)
        have hlo6 : ∀ b, Value.ownBlock (.slice ua (M + 1) uc) = some b → w.heap.size ≤ b := fun b hb => by
          rcases q3 b hb with q | q
          · exact HX.out.2.1 b q
          · rw [World.size_alloc] at q; omega
        have HY := hid_of' (And.intro q1 (And.intro hlo6 hb6))
        clear q1 q2 q3 gx hb6 hlo6 c2 c3
        go_wp2
        go_roundw
        case rel =>
          have e : plc t (g.l.take (k + 1)) = plc t (g.l.take k) ++ [(k : Int)] := by
            rw [take_one HQ.out.1, plc_app, if_pos (HQ.out.2.symm.trans ht), List.length_take, Nat.min_eq_left (by omega)]
          refine ⟨k + 1, by go_num, by omega, ?_, HY.out.2.1, HY.out.2.2⟩
          rw [e, List.length_append, HX.out.2.2.2]
          have := HY.out.1
          simpa [ints] using this
        case measure => simp [intOf]; omega
      · go_wp2
        go_roundw
        case rel =>
          have e : plc t (g.l.take (k + 1)) = plc t (g.l.take k) := by
            rw [take_one HQ.out.1, plc_app, if_neg (fun e => ht (HQ.out.2.trans e)), List.append_nil]
          refine ⟨k + 1, by go_num, by omega, ?_, HX.out.2.1, H5.out.2⟩
          rw [e, HX.out.2.2.2]
          exact H5.out.1
        case measure => simp [intOf]; omega
    · have hki : ¬ (k : Int) < (g.l.length : Int) := by omega
      have hkk : g.l.take k = g.l := by rw [List.take_of_length_le]; omega
      have HK := hid_of' hkk
      clear hkk
      go_wp2
      go_ret
      have h1 := HX.out.1
      have h2 := HX.out.2.2.2
      rw [HK.out] at h1 h2
      exact ⟨_, rfl, by rw [h2]; exact h1, HX.out.2.1, HX.out.2.2.1⟩
end Go.Proofs.YtdojjhhnciaegaaDoor
namespace Go.Proofs.YtdojjhhnciaegaaDoor
open Go.RowKit Go.Extern.Stop Go.Stop Go.Extern
set_option maxRecDepth 100000

set_option maxHeartbeats 4000000 in
theorem spoilInts_is {w : World} {v : Value} {n : Nat} {xs : List Int} (h : Rw 3 1 v n (ints xs) w) (hn : n ≤ 1000000) :
    Calls Tryd.prog 40 #[v] w fun e w' => (∃ z, e = .returned z) ∧ Ch (fun k => v.ownBlock = some k) w w' := by
  obtain ⟨i0, hi0, hz0, hz1, hz2⟩ := info_parts infoInt
  have HI := hid_of' (And.intro hi0 (And.intro hz0 (And.intro hz1 hz2)))
  obtain ⟨a, c, rfl, _, _⟩ := h.form
  have H := hid_of' h
  clear h hi0 hz0 hz1 hz2
  go_enter Tryd.func40, Tryd.ntmps40
  go_wp2
  go_loopw [2] (fun kv wr => ∃ (k : Nat) (ys : List Int), kv = .int .i64 (k : Int) ∧ k ≤ n ∧ Rw 3 1 (.slice a n c) n (ints ys) wr ∧ Ch (fun k => Value.ownBlock (.slice a n c) = some k) w wr) (fun kv _ => n - (intOf kv).toNat)
  case atStart => exact ⟨0, xs, rfl, by omega, H.out, Ch.refl _ _⟩
  case round =>
    rename_i wr
    obtain ⟨k, ys, rfl, hk, hR, hC⟩ := hrel
    by_cases hkl : k < n
    · have hki : (k : Int) < (n : Int) := by omega
      obtain ⟨G, rfl⟩ := hR.some (by omega)
      have hyl : ys.length = n := by have := hR.1; simpa [ints] using this
      obtain ⟨y, hy⟩ : ∃ y, ys[k]? = some y := ⟨_, List.getElem?_eq_getElem (by omega)⟩
      have hat := hR.atI hy
      have m1 := hat.1
      have m2 := hat.2
      have HX := hid_of' (And.intro (hR.setI hkl (-77)) (Ch.set (p := ⟨G, k, none⟩) hC (.inl rfl) (.int .i64 (-77))))
      clear hR hC hat hy hyl
      go_wp2
      go_roundw
      case rel => exact ⟨k + 1, _, by go_num, by omega, HX.out.1, HX.out.2⟩
      case measure => simp [intOf]; omega
    · have hki : ¬ (k : Int) < (n : Int) := by omega
      have HX := hid_of' (And.intro hR hC)
      clear hR hC
      go_wp2
      go_loopw [0, 3] (fun v9 jv wq => ∃ (j m : Nat) (zs : List Int), jv = .int .i64 (j : Int) ∧ j ≤ 40 ∧ m ≤ n + j ∧ Rw 3 1 v9 m (ints zs) wq ∧ At' w (.slice a n c) v9 ∧ Ch (fun k => Value.ownBlock (.slice a n c) = some k) w wq) (fun _ jv _ => 40 - (intOf jv).toNat)
      case atStart => exact ⟨0, n, ys, rfl, by omega, by omega, HX.out.1, At'.refl _ _, HX.out.2⟩
      case round =>
        obtain ⟨j, m, zs, rfl, hj, hm, hR, hA, hC⟩ := hrel
        obtain ⟨za, zc, hv9, _, _⟩ := hR.form
        subst hv9
        by_cases hj4 : j < 40
        · have hji : (j : Int) < 40 := by omega
          have HS := hid_of' (And.intro (hR.later (below_one _ (.cells #[.int .i64 (-78)] 3))) (so_int wr (-78)))
          have HY := hid_of' (And.intro hA hC)
          clear hR hA hC
          go_upto_region 6 with (at_builtin; refine wpL_app (P := Tryd.prog) rfl _ _ 30 rfl 3 i0 _ 1 8 Tryd.underlying30 HI.out.1 HI.out.2.1 HI.out.2.2.1 HI.out.2.2.2 rfl rfl rfl HS.out.1 HS.out.2 (ints_one _) (by unfold maxLen; omega) (by omega) ?_; intro u6 w6 q1 q2 q3)
          have hs := HY.out.2.size
          have hC6 := (HY.out.2.later (below_one _ (.cells #[.int .i64 (-78)] 3))).grown q2 (fun k hk => HY.out.1 k hk)
          have hA6 : At' w (.slice a n c) u6 := fun k hk => (q3 k hk).elim (fun q => HY.out.1 k q) (fun q => .inr (by rw [World.size_alloc] at q; omega))
          have HZ := hid_of' (And.intro q1 (And.intro hA6 hC6))
          clear q1 q2 q3 hC6 hA6
          go_wp2
          go_roundw
          case rel => exact ⟨j + 1, m + 1, zs ++ [-78], by go_num, by omega, by omega, by have := HZ.out.1; simpa [ints] using this, HZ.out.2.1, HZ.out.2.2⟩
          case measure => simp [intOf]; omega
        · have hji : ¬ (j : Int) < 40 := by omega
          have HY := hid_of' hC
          clear hR hA hC
          go_wp2
          go_end0
          exact ⟨⟨_, rfl⟩, HY.out⟩
end Go.Proofs.YtdojjhhnciaegaaDoor
