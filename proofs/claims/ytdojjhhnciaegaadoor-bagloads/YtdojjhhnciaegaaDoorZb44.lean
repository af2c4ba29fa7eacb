
/-
  What is told of a pair of Bags, held against each other, and spoilt.
-/
import Derived.Test.YtdojjhhnciaegaaDoorZb43
namespace Go.Proofs.YtdojjhhnciaegaaDoor
open Go.RowKit Go.Extern.Stop Go.Stop Go.Extern
set_option maxRecDepth 100000

/-- No two share their bytes. -/
def Dis (ps : List Pc) : Prop := ps.Pairwise fun p p' => ∀ k, p.b.ownBlock = some k → ¬ p'.b.ownBlock = some k
theorem Dis.push {qs : List Pc} {x : Pc} {N : Nat} (h : Dis qs) (h1 : ∀ p ∈ qs, ∀ k, p.b.ownBlock = some k → k < N) (h2 : ∀ k, x.b.ownBlock = some k → N ≤ k) : Dis (qs ++ [x]) := by
  unfold Dis
  rw [List.pairwise_append]
  refine ⟨h, List.pairwise_singleton _ _, fun p hp y hy k hk hk' => ?_⟩
  rw [List.mem_singleton] at hy
  subst hy
  have := h1 p hp k hk
  have := h2 k hk'
  omega
theorem Dis.ne {ps : List Pc} (h : Dis ps) {i j : Nat} {p q : Pc} (hp : ps[i]? = some p) (hq : ps[j]? = some q) (hij : i < j) : ∀ k, p.b.ownBlock = some k → ¬ q.b.ownBlock = some k := by
  obtain ⟨a1, a2⟩ := List.getElem?_eq_some_iff.1 hp
  obtain ⟨b1, b2⟩ := List.getElem?_eq_some_iff.1 hq
  have := List.pairwise_iff_getElem.1 h i j a1 b1 hij
  rw [a2, b2] at this
  exact this
theorem psAt_lt {K : Nat → Prop} {ps : List Pc} {qs : List Pl} {w : World} (h : PsAt K ps qs w) {p : Pc} (hp : p ∈ ps) {k : Nat} (hk : p.b.ownBlock = some k) : k < w.heap.size := by
  obtain ⟨i, hi, e⟩ := List.getElem_of_mem hp
  obtain ⟨q, hq⟩ : ∃ q, qs[i]? = some q := ⟨_, List.getElem?_eq_getElem (by rw [← h.1]; exact hi)⟩
  exact (h.2 i p q (by rw [List.getElem?_eq_getElem hi, e]) hq).b.1.lt k hk
set_option maxHeartbeats 4000000 in
theorem allOwn_d {w : World} {v : Value} {l : List Pl} (h : SlQ w v l) (hl : l.length ≤ 4096) :
    Calls Tryd.prog 48 #[v] w fun e w' => ∃ u qs, e = .returned u ∧ Rw 65 4 u l.length (pcells qs) w' ∧ PsAt (fun k => w.heap.size ≤ k) qs l w' ∧ Dis qs ∧ (∀ k, u.ownBlock = some k → w.heap.size ≤ k) ∧ Below w.heap.size w w' := by
  obtain ⟨a, c, rfl⟩ := h.form
  obtain ⟨i0, hi0, hz0, hz1, hz2⟩ := info_parts info_p
  have H := hid_of' h
  clear h
  go_enter Tryd.func48, Tryd.ntmps48
  go_upto_region 2 with (refine wpList_make_full _ rfl _ _ 45 rfl w.heap.size 65 i0 (.agg #[.int .i64 0, .int .i64 0, .int .i64 0, .slice none 0 0]) 4 Tryd.underlying45 hi0 hz0 hz1 .i64 .i64 _ _ l.length rfl rfl rfl rfl ?b2 ?b3 (Nat.le_refl _) ?_)
  case b2 => rw [hz2]; omega
  case b3 => unfold maxLen; omega
  intro w1 hown hgr
  have hb1 : Below w.heap.size w w1 := (Below.refl _ w).grown hgr (Nat.le_refl _) (by simp)
  have hrw : Rw 65 4 (.slice (some ⟨w.heap.size, 0, none⟩) 0 l.length) 0 (pcells []) w1 := by
    rcases hown.2 with ⟨hv, _⟩ | ⟨g, cap, cur, hv, _, hg, _, _, hc, _⟩
    · simp at hv
    · simp only [Value.slice.injEq, Option.some.injEq, Addr.mk.injEq, and_true, true_and] at hv
      obtain ⟨rfl, rfl⟩ := hv
      exact ⟨rfl, .inr ⟨w.heap.size, l.length, cur, rfl, hg, Nat.zero_le _, by unfold maxLen; omega, by rw [hc]; exact Nat.le_refl _, by simp [pcells]⟩⟩
  have HS := hid_of' (And.intro hrw hb1)
  clear hown hgr hrw hb1 hi0 hz0 hz1 hz2
  go_wp2
  go_loopw [11] (fun kv wr => ∃ (k : Nat) (qs : List Pc), kv = .int .i64 (k : Int) ∧ k ≤ l.length ∧ Rw 65 4 (.slice (some ⟨w.heap.size, 0, none⟩) k l.length) k (pcells qs) wr ∧ PsAt (fun b => w.heap.size < b) qs (l.take k) wr ∧ Dis qs ∧ Below w.heap.size w wr) (fun kv _ => l.length - (intOf kv).toNat)
  case atStart => exact ⟨0, [], rfl, by omega, HS.out.1, by simpa using PsAt.nil _ _, List.Pairwise.nil, HS.out.2⟩
  case round =>
    clear HS
    rename_i wr
    obtain ⟨k, qs, rfl, hk, hR, hP, hD, hB⟩ := hrel
    have HD := hid_of' hD
    clear hD
    by_cases hkl : k < l.length
    · have hki : (k : Int) < (l.length : Int) := by omega
      obtain ⟨q, hq⟩ : ∃ q, l[k]? = some q := ⟨_, List.getElem?_eq_getElem hkl⟩
      obtain ⟨g, o_, p, rfl, hpr, hle, hin⟩ := H.out.at hq
      have hin2 := hin.ch (S := fun k => w.heap.size ≤ k) (Ch.ofBelow hB) (by have := hin.1; omega)
      have hpr2 := hpr.low hB
      have HX := hid_of' (And.intro hR (And.intro hP (And.intro hB (And.intro hin2 (And.intro hpr2 (And.intro hle hq))))))
      have HP1 : p.b.oneCell' = true := hpr.b.one
      have hsz := hB.size
      have hRl := hR.lt w.heap.size rfl
      clear hR hP hB hin hin2 hpr hpr2 hle hq
      go_upto_region 5 with (first | (refine wpL_loadP (p := p) rfl _ rfl rfl HX.out.2.2.2.1 ?_) | (refine wpL_stNewP (p := p) rfl _ _ rfl rfl rfl rfl rfl rfl HP1 ?_; go_simp))
      have r5 := row_new wr (pcv p) 65
      have hb5 := below_one wr (.cells (pcv p) 65)
      have HO := hid_of' (own_any (HX.out.2.2.2.2.1.b.later hb5) (by have := HX.out.2.2.2.2.2.1; omega))
      have H5 := hid_of' (And.intro r5 hb5)
      have hs5 : (wr.alloc (.cells (pcv p) 65)).heap.size = wr.heap.size + 1 := World.size_alloc _ _
      have HS5 := hid_of' hs5
      clear r5 hb5 hs5
      generalize wr.alloc (.cells (pcv p) 65) = w5 at HO H5 HS5 ⊢
      go_upto_region 6 with (first | (refine wpL_loadP (p := p) rfl _ rfl rfl H5.out.1.in ?_) | (go_at_call 60; refine HO.out.mono ?_; rintro e w6 ⟨gn, hgn, rfl, hcells, hb6⟩; clear HO; have H6 := hid_of' (And.intro hgn (And.intro hcells (bgo H5.out.2 hb6))); clear hgn hcells hb6) | (refine wpL_storeP (p := ⟨p.s, p.f, p.t, .slice (some ⟨gn, 0, none⟩) q.bs.length q.bs.length⟩) rfl _ _ rfl rfl rfl rfl ((HX.out.1.later H6.out.2.2).room hkl) ?_; go_simp))
      have hgn := H6.out.1
      have hs5 := HS5.out
      have hR7 := (HX.out.1.later H6.out.2.2).push hkl ⟨p.s, p.f, p.t, .slice (some ⟨gn, 0, none⟩) q.bs.length q.bs.length⟩
      have c7 : Ch (fun k => k = w.heap.size) w6 (w6.setCells w.heap.size (k * 4) (pcv ⟨p.s, p.f, p.t, .slice (some ⟨gn, 0, none⟩) q.bs.length q.bs.length⟩).toList) := Ch.cells (S := fun k => k = w.heap.size) (.inl rfl) _ _ _ (Ch.refl _ _)
      have hB7 : Below w.heap.size w (w6.setCells w.heap.size (k * 4) (pcv ⟨p.s, p.f, p.t, .slice (some ⟨gn, 0, none⟩) q.bs.length q.bs.length⟩).toList) := by
        have hb : Below w.heap.size w w6 := HX.out.2.2.1.trans (H6.out.2.2.mono HX.out.2.2.1.size)
        exact hb.trans (c7.below (fun s hs e => by omega) hb.size)
      have hP7 : PsAt (fun b => w.heap.size < b) (qs ++ [⟨p.s, p.f, p.t, .slice (some ⟨gn, 0, none⟩) q.bs.length q.bs.length⟩]) (l.take (k + 1)) (w6.setCells w.heap.size (k * 4) (pcv ⟨p.s, p.f, p.t, .slice (some ⟨gn, 0, none⟩) q.bs.length q.bs.length⟩).toList) := by
        rw [take_one HX.out.2.2.2.2.2.2]
        refine ((HX.out.2.1.later H6.out.2.2).ch c7 (fun g hg e => by omega)).app (PsAt.one ⟨HX.out.2.2.2.2.1.s, HX.out.2.2.2.2.1.f, HX.out.2.2.2.2.1.t, bs_new (c7.heap H6.out.2.1 (by omega)) (by have := HX.out.2.2.2.2.2.1; omega) (by omega), HX.out.2.2.2.2.2.1⟩)
      have hD7 : Dis (qs ++ [⟨p.s, p.f, p.t, .slice (some ⟨gn, 0, none⟩) q.bs.length q.bs.length⟩]) := HD.out.push (N := wr.heap.size) (fun x hx k hk => psAt_lt HX.out.2.1 hx hk) (fun k hk => by cases hk; show wr.heap.size ≤ gn; omega)
      have H7 := hid_of' (And.intro hR7 (And.intro hP7 (And.intro hB7 hD7)))
      clear hR7 hP7 hB7 hD7 c7
      generalize w6.setCells w.heap.size (k * 4) (pcv ⟨p.s, p.f, p.t, .slice (some ⟨gn, 0, none⟩) q.bs.length q.bs.length⟩).toList = w7 at H7 ⊢
      go_wp2
      go_roundw
      case rel => exact ⟨k + 1, _, by go_num, by omega, H7.out.1, H7.out.2.1, H7.out.2.2.2, H7.out.2.2.1⟩
      case measure => simp [intOf]; omega
    · have hki : ¬ (k : Int) < (l.length : Int) := by omega
      have hkk : k = l.length := by omega
      have HX := hid_of' (And.intro hR (And.intro hP (And.intro hB hkk)))
      clear hR hP hB hkk
      go_wp2
      go_ret
      have hkk := HX.out.2.2.2
      refine ⟨_, rfl, qs, ?_, ?_, HD.out, fun k' hk' => by cases hk'; exact Nat.le_refl _, HX.out.2.2.1⟩
      · have := HX.out.1
        rw [hkk] at this
        exact this
      · have := HX.out.2.1
        rw [hkk, List.take_length] at this
        exact this.mono (fun g hg _ => by omega)
set_option maxHeartbeats 1000000 in
theorem all_d {B : Nat} {v : Value} {g : Bg} {K : Nat → Prop} {w : World} (h : BgAt B v g K w) :
    Calls Tryd.prog 44 #[.pointer (some ⟨B, 0, none⟩)] w fun e w' => ∃ u qs, e = .returned u ∧ Rw 65 4 u g.l.length (pcells qs) w' ∧ PsAt (fun k => w.heap.size ≤ k) qs g.l w' ∧ Dis qs ∧ (∀ k, u.ownBlock = some k → w.heap.size ≤ k) ∧ Below w.heap.size w w' := by
  have HA := hid_of' (allOwn_d h.row.q (by have := h.room; have := h.most1; omega))
  have c1 := h.lies.cellIs 1 rfl
  clear h
  go_enter Tryd.func44, Tryd.ntmps44
  go_wp2_with (go_at_call 48; refine HA.out.mono ?_; rintro e w1 ⟨u, qs, rfl, h1, h2, h3, h4, h5⟩)
  go_ret
  exact ⟨u, qs, rfl, h1, h2, h3, h4, h5⟩
theorem wpL_oneP {ops : Array Oper} {rest : List Oper} {o : Oper} {A : Act} {w : World} {Q : Exit → Act → World → Prop} (hgd : o.guard = none) (x : Operand) (ho : o.op = .buildSlice 45 1 #[(0, x)]) {p : Pc} (hx : A.eval x = .agg (pcv p)) (hp : p.b.oneCell' = true)
    (k : wpList Tryd.prog ops Q rest (A.put o.dst (.slice (some ⟨w.heap.size, 0, none⟩) 1 1)) (w.alloc (.cells (pcv p) 65))) : wpList Tryd.prog ops Q (o :: rest) A w :=
  wpList_plain hgd fun _ hK => opw_one x ho hx hp (hK _ _ k)
set_option maxHeartbeats 4000000 in
theorem spoilParcels_is {w : World} {v : Value} {l : List Pl} {ps : List Pc} {N : Nat} (h : Rw 65 4 v l.length (pcells ps) w) (hp : PsAt (fun k => N ≤ k) ps l w) (hd : Dis ps) (hv : ∀ k, v.ownBlock = some k → N ≤ k) (hN : N ≤ w.heap.size) (hl : l.length ≤ 4096) :
    Calls Tryd.prog 46 #[v] w fun e w' => (∃ z, e = .returned z) ∧ Ch (fun k => N ≤ k) w w' := by
  obtain ⟨i0, hi0, hz0, hz1, hz2⟩ := info_parts info_p
  have HI := hid_of' (And.intro hi0 (And.intro hz0 (And.intro hz1 hz2)))
  obtain ⟨a, c, rfl, _, _⟩ := h.form
  obtain ⟨n, hn⟩ : ∃ n, l.length = n := ⟨_, rfl⟩
  have hpl : ps.length = n := by rw [← hn]; exact hp.1
  rw [hn] at h hv hl ⊢
  have H := hid_of' (And.intro h (And.intro hp (And.intro hd (And.intro hv (And.intro hN (And.intro hpl hn))))))
  clear h hp hd hv hpl hn hi0 hz0 hz1 hz2
  go_enter Tryd.func46, Tryd.ntmps46
  go_wp2
  go_loopw [2] (fun kv wr => ∃ (k : Nat) (qs : List Pc), kv = .int .i64 (k : Int) ∧ k ≤ n ∧ Rw 65 4 (.slice a n c) n (pcells qs) wr ∧ qs.drop k = ps.drop k ∧ (∀ (i : Nat) (p : Pc) (q : Pl), k ≤ i → ps[i]? = some p → l[i]? = some q → PcIs (fun k => N ≤ k) p q wr) ∧ Ch (fun k => N ≤ k) w wr) (fun kv _ => n - (intOf kv).toNat)
  case atStart => exact ⟨0, ps, rfl, by omega, H.out.1, rfl, fun i p q _ h1 h2 => H.out.2.1.2 i p q h1 h2, Ch.refl _ _⟩
  case round =>
    obtain ⟨k, qs, rfl, hk, hR, hD, hP, hC⟩ := hrel
    by_cases hkl : k < n
    · have hki : (k : Int) < (n : Int) := by omega
      obtain ⟨p, hp⟩ : ∃ p, ps[k]? = some p := ⟨_, List.getElem?_eq_getElem (by have := H.out.2.2.2.2.2.1; omega)⟩
      obtain ⟨q, hq⟩ : ∃ q, l[k]? = some q := ⟨_, List.getElem?_eq_getElem (by have := H.out.2.2.2.2.2.2; omega)⟩
      have hqk : qs[k]? = some p := by
        have e1 : (qs.drop k)[0]? = qs[k]? := by rw [List.getElem?_drop, Nat.add_zero]
        have e2 : (ps.drop k)[0]? = ps[k]? := by rw [List.getElem?_drop, Nat.add_zero]
        rw [← e1, hD, e2, hp]
      obtain ⟨G, rfl⟩ : ∃ G, a = some ⟨G, 0, none⟩ := by
        rcases hR.2 with ⟨q1, q2⟩ | ⟨g', cap, cur, q1, _⟩
        · omega
        · simp only [Value.slice.injEq] at q1
          exact ⟨g', q1.1⟩
      have hpk := hP k p q (Nat.le_refl _) hp hq
      have c3 : wr.cell? ⟨G, k * 4 + 3, none⟩ = some p.b := by
        have := hR.cells _ _ (pcells_at qs k p hqk 3 p.b rfl)
        rwa [Nat.zero_add] at this
      have hns : ∀ j, p.b.ownBlock = some j → ¬ j = G := fun j hj e => hpk.b.1.ne hR (by decide) j hj (by rw [e]; rfl)
      have HSp := hid_of' (spoilBytes_is hpk.b.1 (fun u hu => by obtain ⟨z, _, rfl⟩ := List.mem_map.1 hu; exact ⟨_, rfl⟩) hpk.le)
      have HX := hid_of' (And.intro hR (And.intro hD (And.intro hP (And.intro hC (And.intro hpk (And.intro hns hp))))))
      obtain ⟨ba, bc, hbv, _, _⟩ := hpk.b.1.form
      obtain ⟨bn, hbn⟩ : ∃ bn, q.bs.length = bn := ⟨_, rfl⟩
      rw [hbn] at hbv
      rw [hbv] at c3 HSp
      clear hR hD hP hC hpk hns hp hqk
      go_upto_region 4 with (go_at_call 65; refine HSp.out.mono ?_; rintro e w3 ⟨⟨z, rfl⟩, hc3⟩; clear HSp)
      have hc3' : Ch (fun j => p.b.ownBlock = some j) wr w3 := by rw [hbv]; exact hc3
      have hR3 := Rw.ch HX.out.1 hc3' (fun j hj e => by cases hj; exact HX.out.2.2.2.2.2.1 _ e rfl)
      have th3 := Rw.there hR3 hkl
      have hC3 := HX.out.2.2.2.1.go hc3' (fun s e => .inl (HX.out.2.2.2.2.1.b.2 s e))
      have hP3 : ∀ (i : Nat) (p' : Pc) (q' : Pl), k + 1 ≤ i → ps[i]? = some p' → l[i]? = some q' → PcIs (fun k => N ≤ k) p' q' w3 := fun i p' q' hi h1 h2 => by
        have h3 := HX.out.2.2.1 i p' q' (by omega) h1 h2
        exact ⟨h3.s, h3.f, h3.t, ⟨Rw.ch h3.b.1 hc3' (fun j hj e => H.out.2.2.1.ne HX.out.2.2.2.2.2.2 h1 (by omega) j e hj), h3.b.2⟩, h3.le⟩
      have HY := hid_of' (And.intro hR3 (And.intro hC3 hP3))
      clear hc3 hc3' hR3 hC3 hP3 c3
      go_upto_region 2 with (refine wpL_storeP (p := ⟨-5, 0, 0, .slice none 0 0⟩) rfl _ _ rfl rfl rfl rfl th3 ?_)
      have hR4 := Rw.put HY.out.1 hkl ⟨-5, 0, 0, .slice none 0 0⟩
      have g4 := grown_cells w3 G (k * 4) (pcv ⟨-5, 0, 0, .slice none 0 0⟩).toList
      have hGN : N ≤ G := H.out.2.2.2.1 G rfl
      have hC4 := HY.out.2.1.go (grown_ch g4) (fun s e => .inl (by cases e; exact hGN))
      have hP4 : ∀ (i : Nat) (p' : Pc) (q' : Pl), k + 1 ≤ i → ps[i]? = some p' → l[i]? = some q' → PcIs (fun k => N ≤ k) p' q' (w3.setCells G (k * 4) (pcv ⟨-5, 0, 0, .slice none 0 0⟩).toList) := fun i p' q' hi h1 h2 => by
        have h3 := HY.out.2.2 i p' q' hi h1 h2
        exact ⟨h3.s, h3.f, h3.t, ⟨Rw.ch h3.b.1 (grown_ch g4) (fun j hj e => h3.b.1.ne HY.out.1 (by decide) j hj e), h3.b.2⟩, h3.le⟩
      have hD4 : (qs.set k ⟨-5, 0, 0, .slice none 0 0⟩).drop (k + 1) = ps.drop (k + 1) := by
        rw [set_drop, ← List.drop_drop (i := 1) (j := k), ← List.drop_drop (i := 1) (j := k), HX.out.2.1]
      have HZ := hid_of' (And.intro hR4 (And.intro hD4 (And.intro hP4 hC4)))
      clear hR4 g4 hC4 hP4 hD4 th3
      generalize w3.setCells G (k * 4) (pcv ⟨-5, 0, 0, .slice none 0 0⟩).toList = w4 at HZ ⊢
      go_wp2
      go_roundw
      case rel => exact ⟨k + 1, _, by go_num, by omega, HZ.out.1, HZ.out.2.1, HZ.out.2.2.1, HZ.out.2.2.2⟩
      case measure => simp [intOf]; omega
    · have hki : ¬ (k : Int) < (n : Int) := by omega
      have HX := hid_of' (And.intro hR hC)
      clear hR hD hP hC
      go_wp2
      go_loopw [0, 3] (fun v9 jv wq => ∃ (j m : Nat) (zs : List Pc), jv = .int .i64 (j : Int) ∧ j ≤ 40 ∧ m ≤ n + j ∧ Rw 65 4 v9 m (pcells zs) wq ∧ (∀ k, v9.ownBlock = some k → N ≤ k) ∧ Ch (fun k => N ≤ k) w wq) (fun _ jv _ => 40 - (intOf jv).toNat)
      case atStart => exact ⟨0, n, qs, rfl, by omega, by omega, HX.out.1, H.out.2.2.2.1, HX.out.2⟩
      case round =>
        obtain ⟨j, m, zs, rfl, hj, hm, hR, hA, hC⟩ := hrel
        obtain ⟨za, zc, hv9, _, _⟩ := hR.form
        subst hv9
        by_cases hj4 : j < 40
        · have hji : (j : Int) < 40 := by omega
          have hrs := hC.size
          have hNw := H.out.2.2.2.2.1
          have HS := hid_of' (And.intro (hR.later (below_one _ (.cells (pcv ⟨-6, 0, 0, .slice none 0 0⟩) 65))) (row_new wr (pcv ⟨-6, 0, 0, .slice none 0 0⟩) 65).in)
          have HY := hid_of' (And.intro hA hC)
          clear hR hA hC
          go_upto_region 7 with (first | (refine wpL_oneP (p := ⟨-6, 0, 0, .slice none 0 0⟩) rfl _ rfl rfl rfl ?_) | (at_builtin; refine wpL_app (P := Tryd.prog) rfl _ _ 45 rfl 65 i0 _ 4 48 Tryd.underlying45 HI.out.1 HI.out.2.1 HI.out.2.2.1 HI.out.2.2.2 rfl rfl rfl HS.out.1 (so_one HS.out.2) (pcells_one [⟨-6, 0, 0, .slice none 0 0⟩] (fun p hp => by rw [List.mem_singleton] at hp; subst hp; rfl)) (by unfold maxLen; omega) (by omega) ?_; intro u6 w6 q1 q2 q3))
          have hC6 := (HY.out.2.later (below_one _ (.cells (pcv ⟨-6, 0, 0, .slice none 0 0⟩) 65))).go (grown_ch q2) (fun s e => .inl (HY.out.1 s e))
          have hA6 : ∀ k, u6.ownBlock = some k → N ≤ k := fun k hk => (q3 k hk).elim (fun q => HY.out.1 k q) (fun q => by rw [World.size_alloc] at q; omega)
          have HZ := hid_of' (And.intro q1 (And.intro hA6 hC6))
          clear q1 q2 q3 hC6 hA6
          go_wp2
          go_roundw
          case rel => exact ⟨j + 1, m + 1, _, by go_num, by omega, by omega, by rw [← pcells_app] at HZ; exact HZ.out.1, HZ.out.2.1, HZ.out.2.2⟩
          case measure => simp [intOf]; omega
        · have hji : ¬ (j : Int) < 40 := by omega
          have HY := hid_of' hC
          clear hR hA hC
          go_wp2
          go_end0
          exact ⟨⟨_, rfl⟩, HY.out⟩
end Go.Proofs.YtdojjhhnciaegaaDoor
