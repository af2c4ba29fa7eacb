
/-
  The document's side: copied, ways, Load.
-/
import Derived.Test.YtdojjhhnciaegaaDoorZb27
namespace Go.Proofs.YtdojjhhnciaegaaDoor
open Go.RowKit Go.Extern.Stop Go.Stop Go.Extern
set_option maxRecDepth 100000

theorem refCopied_any {w : World} {v : Value} {bs : List UInt8} (h : SlB w v bs) (hl : bs.length ≤ 140737488351232) :
    Calls Tryd.prog 50 #[v] w fun e w' => ∃ u, e = .returned u ∧ BsAt (fun k => w.heap.size ≤ k) u bs w' ∧ Below w.heap.size w w' := by
  obtain ⟨i0, hi0, hz0, hz1, hz2⟩ := info_parts info_u8
  have HI := hid_of' (And.intro hi0 (And.intro hz0 (And.intro hz1 hz2)))
  have HS := hid_of' (h.later (below_one w (.cells #[] 5)))
  clear hi0 hz0 hz1 hz2
  obtain ⟨a, c, rfl⟩ := h.form
  clear h
  go_enter Tryd.func50, Tryd.ntmps50
  go_wp2_with (at_builtin; refine wpL_app0 (P := Tryd.prog) rfl _ _ 41 rfl 5 i0 _ 1 1 Tryd.underlying41 HI.out.1 HI.out.2.1 HI.out.2.2.1 HI.out.2.2.2 rfl rfl rfl (row_new w _ _) HS.out.so (byteCells_one bs) (by unfold maxLen; omega) (by omega) ?_; intro v' w1 h1 h2 h3)
  go_ret
  rw [World.size_alloc] at h3
  exact ⟨_, rfl, ⟨h1, fun k hk => (h3 k hk).elim (fun q => by omega) (fun q => by omega)⟩, bgo (below_one w _) h2⟩
set_option maxHeartbeats 2000000 in
theorem ways_is (f t : Int) (w : World) : Calls Tryd.prog 49 #[.int .i64 f, .int .i64 t] w fun e w' => e = .returned (.bool (endsB f t)) ∧ w' = w := by
  unfold endsB repB
  by_cases h1 : 0 ≤ f
  · by_cases h2 : f ≤ 7
    · by_cases h3 : 0 ≤ t
      · by_cases h4 : t ≤ 7
        · have e : ((decide (0 ≤ f) && decide (f < 8)) && (decide (0 ≤ t) && decide (t < 8)) && (f != t)) = (f != t) := by rw [decide_eq_true h1, decide_eq_true (show f < 8 by omega), decide_eq_true h3, decide_eq_true (show t < 8 by omega)]; rfl
          rw [e]
          go_enter Tryd.func49, Tryd.ntmps49
          go_wp2
          go_ret
          exact ⟨rfl, rfl⟩
        · rw [decide_eq_false (show ¬ t < 8 by omega), Bool.and_false, Bool.and_false, Bool.false_and]
          go_enter Tryd.func49, Tryd.ntmps49
          go_wp2
          go_ret
          exact ⟨rfl, rfl⟩
      · rw [decide_eq_false h3, Bool.false_and, Bool.and_false, Bool.false_and]
        go_enter Tryd.func49, Tryd.ntmps49
        go_wp2
        go_ret
        exact ⟨rfl, rfl⟩
    · rw [decide_eq_false (show ¬ f < 8 by omega), Bool.and_false, Bool.false_and, Bool.false_and]
      go_enter Tryd.func49, Tryd.ntmps49
      go_wp2
      go_ret
      exact ⟨rfl, rfl⟩
  · rw [decide_eq_false h1, Bool.false_and, Bool.false_and, Bool.false_and]
    go_enter Tryd.func49, Tryd.ntmps49
    go_wp2
    go_ret
    exact ⟨rfl, rfl⟩
/-- A Bag of the document's in memory. -/
structure RgAt (B : Nat) (v : Value) (g : Bg) (K : Nat → Prop) (w : World) : Prop where
  lies : RowAt B #[.int .i64 g.most, .int .i64 (wrap64 (g.last + 1)), v, .int .i64 g.sent, .int .i64 g.arr, .int .i64 g.drp, .int .i64 g.dbl] 47 w
  row : PRow K v g.l w
  most1 : g.most ≤ 4096
  room : (g.l.length : Int) ≤ g.most
theorem PRow.bne {K : Nat → Prop} {v : Value} {l : List Pl} {w : World} (h : PRow K v l w) : PRow (fun k => K k ∧ k < w.heap.size ∧ ∀ i, v.ownBlock = some i → ¬ k = i) v l w := by
  obtain ⟨ps, h1, h2⟩ := h
  refine ⟨ps, h1, h2.1, fun i p q hp hq => ?_⟩
  have hpq := h2.2 i p q hp hq
  exact ⟨hpq.s, hpq.f, hpq.t, ⟨hpq.b.1, fun k hk => ⟨hpq.b.2 k hk, hpq.b.1.lt k hk, fun j hj e => hpq.b.1.ne h1 (by decide) k hk (e ▸ hj)⟩⟩, hpq.le⟩
/-- What the document's Load answers. -/
def RlQ (m : Int) (l : List Pl) (N : Nat) (e : Ending) (w' : World) : Prop := ∃ bv nv, e = .returned (.tuple #[bv, nv]) ∧ ((RightTo l l.length ∧ nv = .agg (nov 0 none 0 0 none 0 0) ∧ ∃ B v, bv = .pointer (some ⟨B, 0, none⟩) ∧ N ≤ B ∧ RgAt B v (ldG m l) (fun k => N ≤ k) w' ∧ ∀ k, v.ownBlock = some k → N ≤ k) ∨ ∃ (i : Nat) (q : Pl), l[i]? = some q ∧ rightP q = false ∧ RightTo l i ∧ bv = .pointer none ∧ NoR N (some (bLoad, (i : Int), 5)) nv w')
theorem results_pn {fn : Func} {p q : Tmp} {tmps : Array Value} {w : World} {g : Nat} {cs : Array Value} (h : fn.results = #[.tmp p, .cell q 32]) (hq : tmps.getD q undef = .pointer (some ⟨g, 0, none⟩)) (hg : RowAt g cs 32 w) (hs : cs.size = 3) :
    (results fn tmps).run Tryd.prog w = .ok (.tuple #[tmps.getD p undef, .agg cs]) w := by
  have hq' : tmps[q]?.getD undef = .pointer (some ⟨g, 0, none⟩) := by simpa using hq
  have hi : (Tryd.prog.info? 32).map (·.size) = some cs.size := by rw [hs]; exact no_size
  simp [results, h, hq', asAddr, run_loadVar_row w g _ _ _ _ _ hg Tryd.underlying32 rfl hi]
theorem maxS_le : ∀ (l : List Pl), (∀ q ∈ l, q.s ≤ 4611686018427387904) → maxS l ≤ 4611686018427387904 ∧ 0 ≤ maxS l
  | [], _ => by simp [maxS]
  | a :: l, h => by
    have ih := maxS_le l (fun q hq => h q (List.mem_cons_of_mem _ hq))
    have := h a (by simp)
    simp only [maxS]
    omega
set_option maxHeartbeats 8000000 in
theorem refLoad_any {w : World} {v : Value} {l : List Pl} (h : SlQ w v l) (m : Int) (h0 : 0 ≤ m) (h1 : m ≤ 4096) (hl : (l.length : Int) ≤ m) :
    Calls Tryd.prog 13 #[.int .i64 m, v] w fun e w' => RlQ m l w.heap.size e w' ∧ Below w.heap.size w w' := by
  obtain ⟨a, c, rfl⟩ := h.form
  obtain ⟨i0, hi0, hz0, hz1, hz2⟩ := info_parts info_p
  have HI := hid_of' (And.intro hi0 (And.intro hz0 (And.intro hz1 hz2)))
  have H := hid_of' (And.intro h (And.intro h0 (And.intro h1 hl)))
  have hnl : ¬ m < (l.length : Int) := by omega
  have hl4 : l.length ≤ 4096 := by omega
  have hm0 : ¬ m < 0 := by omega
  have hm1 : ¬ 4096 < m := by omega
  clear h h0 h1 hl hi0 hz0 hz1 hz2
  have rN := (row_new w #[.int .i64 0, .slice none 0 0, .slice none 0 0] 32).later (below_one _ (.cells #[.int .i64 m, .int .i64 1, .slice none 0 0, .int .i64 0, .int .i64 0, .int .i64 0, .int .i64 0] 47))
  have rB := row_new2 w (.cells #[.int .i64 0, .slice none 0 0, .slice none 0 0] 32) #[.int .i64 m, .int .i64 1, .slice none 0 0, .int .i64 0, .int .i64 0, .int .i64 0, .int .i64 0] 47
  have hb1 := below_two w (.cells #[.int .i64 0, .slice none 0 0, .slice none 0 0] 32) (.cells #[.int .i64 m, .int .i64 1, .slice none 0 0, .int .i64 0, .int .i64 0, .int .i64 0, .int .i64 0] 47)
  go_enter Tryd.func13, Tryd.ntmps13
  go_wp2
  generalize ((w.alloc (.cells #[.int .i64 0, .slice none 0 0, .slice none 0 0] 32)).alloc (.cells #[.int .i64 m, .int .i64 1, .slice none 0 0, .int .i64 0, .int .i64 0, .int .i64 0, .int .i64 0] 47)) = w1 at rN rB hb1 ⊢
  have H1 := hid_of' (And.intro rN (And.intro rB hb1))
  clear rN rB hb1
  go_loopw [7] (fun kv wr => ∃ (k : Nat) (v9 : Value), kv = .int .i64 (k : Int) ∧ k ≤ l.length ∧ RightTo l k ∧ RowAt w.heap.size #[.int .i64 0, .slice none 0 0, .slice none 0 0] 32 wr ∧ RowAt (w.heap.size + 1) #[.int .i64 m, .int .i64 (maxS (l.take k) + 1), v9, .int .i64 0, .int .i64 0, .int .i64 0, .int .i64 0] 47 wr ∧ PRow (fun b => w.heap.size + 1 < b) v9 (l.take k) wr ∧ (∀ b, v9.ownBlock = some b → w.heap.size + 1 < b) ∧ Below w.heap.size w wr) (fun kv _ => l.length - (intOf kv).toNat)
  case atStart => exact ⟨0, _, rfl, by omega, fun j q hj _ => by omega, H1.out.1, by simpa [maxS] using H1.out.2.1, by simpa using PRow.nil _ _, fun b hb => (by cases hb), H1.out.2.2⟩
  case round =>
    clear H1
    rename_i wr
    obtain ⟨k, v9, rfl, hk, hto, rN, rB, hP, hv, hB⟩ := hrel
    have hB0 : w.heap.size + 1 < wr.heap.size := rB.lt
    have HX := hid_of' (And.intro hto (And.intro rN (And.intro rB (And.intro hP (And.intro hv hB)))))
    clear hto rN rB hP hv hB
    by_cases hkl : k < l.length
    · have hki : (k : Int) < (l.length : Int) := by omega
      obtain ⟨ql, hq⟩ : ∃ ql, l[k]? = some ql := ⟨_, List.getElem?_eq_getElem hkl⟩
      obtain ⟨g, o_, p, rfl, hpr, hle, hin⟩ := H.out.1.at hq
      have HQ := hid_of' (And.intro hq (And.intro hle hpr))
      have HIn := hid_of' (And.intro (hin.later HX.out.2.2.2.2.2) (hpr.later HX.out.2.2.2.2.2))
      have HP0 : p.b.oneCell' = true := hpr.b.one
      have HPS := hid_of' hpr.s
      clear hin hpr hle hq
      go_upto_region 10 with (first | (refine wpL_loadP (p := p) rfl _ rfl rfl HIn.out.1 ?_) | (refine wpL_stNewP (p := p) rfl _ _ rfl rfl rfl rfl rfl rfl HP0 ?_; go_simp))
      have r5 := row_new wr (pcv p) 65
      have hb5 := below_one wr (.cells (pcv p) 65)
      generalize wr.alloc (.cells (pcv p) 65) = w5 at r5 hb5 ⊢
      have x0 : ∀ s : Wld w5, (wOf s).cell? ⟨wr.heap.size, 0, none⟩ = some (.int .i64 ql.s) := fun s => by rw [← HPS.out]; exact r5.cls 0 _ rfl s
      have x1 : ∀ s : Wld w5, (wOf s).cell? ⟨wr.heap.size, 1, none⟩ = some (.int .i64 ql.f) := fun s => by rw [← HQ.out.2.2.f]; exact r5.cls 1 _ rfl s
      have x2 : ∀ s : Wld w5, (wOf s).cell? ⟨wr.heap.size, 2, none⟩ = some (.int .i64 ql.t) := fun s => by rw [← HQ.out.2.2.t]; exact r5.cls 2 _ rfl s
      have HE := hid_of' (fun x => ways_is ql.f ql.t x)
      have hB := Below.refl w5.heap.size w5
      have H5 := hid_of' (And.intro r5 hb5)
      clear r5 hb5
      by_cases hgood : rightP ql = true
      · obtain ⟨g1, g2, g3⟩ := rightP_ser hgood
        have y1 : decide (ql.s < 1) = false := decide_eq_false (by omega)
        have y2 : decide (4611686018427387904 < ql.s) = false := decide_eq_false (by omega)
        have HE3 : Hid (∀ x, Calls Tryd.prog 49 #[.int .i64 ql.f, .int .i64 ql.t] x fun e w' => e = .returned (.bool true) ∧ w' = x) := fun x => by have := HE.out x; rw [g3] at this; exact this
        have HT2 : Hid (RightTo l (k + 1)) := fun j r hj hr => by
          by_cases e : j = k
          · subst e
            rw [HQ.out.1] at hr
            cases hr
            exact hgood
          · exact HX.out.1 j r (by omega) hr
        clear hgood HE
        refine wp_region_cls0 ?_
        repeat (first | go_big_quiet_skip | (go_big_quiet_want; first | (go_big_quiet_op; first | go_big_quiet_on | go_big_quiet_call ((go_at_call 49; exact cls_of_same (HE3.out _))))))
        refine wpQuiet_nil ?_
        rintro w1 ⟨s1, e1⟩
        have hb1 := wOf_below s1
        rw [← e1] at hb1
        clear e1 s1
        replace hB := bgo hB hb1
        clear hb1
        have hb6 := hB
        clear hB x0 x1 x2 y1 y2
        have hb6' := bgo H5.out.2 hb6
        have r6 := H5.out.1.later hb6
        have rB6 := HX.out.2.2.1.later hb6'
        have hP6 := HX.out.2.2.2.1.later hb6'
        have hpr6 := HIn.out.2.later hb6'
        have z0 : ∀ s : Wld w1, (wOf s).cell? ⟨wr.heap.size, 0, none⟩ = some (.int .i64 p.s) := r6.cls 0 _ rfl
        have z1 : ∀ s : Wld w1, (wOf s).cell? ⟨w.heap.size + 1, 1, none⟩ = some (.int .i64 (maxS (l.take k) + 1)) := rB6.cls 1 _ rfl
        have hms := maxS_le (l.take k) (fun r hr => by
          obtain ⟨j, hj⟩ := List.getElem?_of_mem hr
          have hjk : j < k := by have := (List.getElem?_eq_some_iff.1 hj).1; rw [List.length_take] at this; omega
          rw [List.getElem?_take_of_lt hjk] at hj
          exact (rightP_ser (HX.out.1 j r hjk hj)).2.1)
        have hps : p.s = ql.s := HPS.out
        obtain ⟨Z, hZ⟩ : ∃ Z, maxS (l.take k) = Z := ⟨_, rfl⟩
        rw [hZ] at z1 rB6 hms
        have HB6 := hid_of' hb6'
        have H6 := hid_of' (And.intro r6 (And.intro rB6 (And.intro hP6 hpr6)))
        have HZ0 := hid_of' hZ
        have hB := Below.refl w1.heap.size w1
        clear hb6 hb6' r6 rB6 hP6 hpr6 H5 hZ HPS
        have hp62 : p.s ≤ 4611686018427387904 := by omega
        have HPZ := hid_of' hps
        clear hps
        by_cases hge : Z + 1 ≤ p.s
        · have y3 : decide (Z + 1 ≤ p.s) = true := decide_eq_true hge
          go_upto_region 12 with fail
          refine wp_region_cls (by kernel_rfl) (by kernel_rfl) ?_
          repeat (first | go_big_quiet_skip | (go_big_quiet_want; first | (go_big_quiet_op; first | go_big_quiet_on | go_big_quiet_call ((fail)))))
          refine wpQuiet_nil ?_
          rintro w1 ⟨s1, e1⟩
          have hb1 := wOf_below s1
          rw [← e1] at hb1
          clear e1 s1
          replace hB := bgo hB hb1
          clear hb1
          have hb7 := hB
          have d0 : w1.cell? ⟨wr.heap.size, 0, none⟩ = some (.int .i64 p.s) := (H6.out.1.later hb7).cellIs 0 rfl
          have d1 : w1.cell? ⟨w.heap.size + 1, 1, none⟩ = some (.int .i64 (Z + 1)) := (H6.out.2.1.later hb7).cellIs 1 rfl
          have d2 := (H6.out.2.1.later hb7).froz 1
          have hb8 := bgo HB6.out hb7
          have rB8 := (H6.out.2.1.later hb7).setc 1 (.int .i64 (p.s + 1))
          have cN : Ch (fun s => s = w.heap.size + 1) w1 (w1.setCell ⟨w.heap.size + 1, 1, none⟩ (.int .i64 (p.s + 1))) := Ch.set (S := fun s => s = w.heap.size + 1) (Ch.refl _ _) (p := ⟨w.heap.size + 1, 1, none⟩) (.inl rfl) _
          have hw64 : wrap64 (p.s + 1) = p.s + 1 := by unfold wrap64; omega
          have hP8 : PRow (fun b => (w.heap.size + 1 < b) ∧ b < wr.heap.size ∧ ∀ i, v9.ownBlock = some i → ¬ b = i) v9 (l.take k) (w1.setCell ⟨w.heap.size + 1, 1, none⟩ (.int .i64 (p.s + 1))) := (HX.out.2.2.2.1.bne.later hb8).ch cN (fun b hb e => by have := HX.out.2.2.2.2.1 b hb; omega) (fun b hb e => by have := hb.1; omega)
          have hP9 := (H6.out.1.later hb7).ch cN (by omega)
          have hS9 : SlB (w1.setCell ⟨w.heap.size + 1, 1, none⟩ (.int .i64 (p.s + 1))) p.b ql.bs := by
            by_cases hnil : ql.bs = []
            · rcases HQ.out.2.2.b with ⟨_, hf⟩ | ⟨g', o', c', e', _⟩
              · exact .inl ⟨hnil, hf⟩
              · exact .inl ⟨hnil, some ⟨g', o', none⟩, c', by rw [e', hnil]; rfl⟩
            · exact (H6.out.2.2.2.b.later hb7).ch cN (fun b hb e => by have := HQ.out.2.2.b.lt hnil b hb; omega)
          have hN9 := (HX.out.2.1.later hb8).ch cN (by omega)
          have hB9 : Below w.heap.size w (w1.setCell ⟨w.heap.size + 1, 1, none⟩ (.int .i64 (p.s + 1))) := by
            have hb : Below w.heap.size w w1 := HX.out.2.2.2.2.2.trans (hb8.mono HX.out.2.2.2.2.2.size)
            exact hb.trans (cN.below (fun s hs e => by omega) hb.size)
          have hZ9 : wr.heap.size + 1 ≤ (w1.setCell ⟨w.heap.size + 1, 1, none⟩ (.int .i64 (p.s + 1))).heap.size := hP9.lt
          have HT := hid_of' (And.intro rB8 (And.intro hP9 (And.intro hP8 (And.intro hS9 (And.intro hN9 (And.intro hB9 hZ9))))))
          have HNX : Hid (p.s + 1 = max (maxS (l.take k)) ql.s + 1) := by show p.s + 1 = _; rw [HZ0.out, ← HPZ.out]; omega
          clear rB8 hP8 hP9 hS9 hN9 hB9 hZ9 cN y3 z0 z1 hB hb7 hb8
          go_upto_region 14 with fail
          clear d0 d1 d2
          generalize w1.setCell ⟨w.heap.size + 1, 1, none⟩ (.int .i64 (p.s + 1)) = w8 at HT ⊢
          have hr5 := HT.out.2.1
          have c3 : w8.cell? ⟨wr.heap.size, 3, none⟩ = some p.b := hr5.cellIs 3 rfl
          have HC := hid_of' (refCopied_any HT.out.2.2.2.1 HQ.out.2.1)
          clear hr5
          go_upto_region 15 with (go_at_call 50; refine HC.out.mono ?_; rintro e w9 ⟨u9, rfl, hu9, hb9⟩; clear HC; obtain ⟨ua9, uc9, rfl⟩ := hu9.sl.form; have c9_ : w9.cell? ⟨wr.heap.size, 3, none⟩ = some p.b := (HT.out.2.1.later hb9).cellIs 3 rfl; have f9_ := (HT.out.2.1.later hb9).froz 3; have HU := hid_of' (And.intro hu9 hb9); clear hu9 hb9)
          clear c3 c9_ f9_
          have HP1 : (Value.slice ua9 ql.bs.length uc9).oneCell' = true := rfl
          have rP := (HT.out.2.1.later HU.out.2).setc 3 (.slice ua9 ql.bs.length uc9)
          have cP : Ch (fun s => s = wr.heap.size) w9 (w9.setCell ⟨wr.heap.size, 3, none⟩ (.slice ua9 ql.bs.length uc9)) := Ch.set (S := fun s => s = wr.heap.size) (Ch.refl _ _) (p := ⟨wr.heap.size, 3, none⟩) (.inl rfl) _
          have rB := (HT.out.1.later HU.out.2).ch cP (by omega)
          have rN := (HT.out.2.2.2.2.1.later HU.out.2).ch cP (by omega)
          obtain ⟨ps, hps1, hps2⟩ := HT.out.2.2.1
          have hvl : ∀ b, v9.ownBlock = some b → b < wr.heap.size := HX.out.2.2.2.1.lt
          have hs8 := HT.out.2.2.2.2.2.2
          have hps1 := (hps1.later HU.out.2).ch cP (fun b hb e => by have := hvl b hb; omega)
          have hps2 := (hps2.later HU.out.2).ch cP (fun b hb e => by have := hb.2.1; omega)
          have hu9 := HU.out.1.ch cP (fun b hb e => by omega)
          have hBc : Below w.heap.size w (w9.setCell ⟨wr.heap.size, 3, none⟩ (.slice ua9 ql.bs.length uc9)) := by
            have hb : Below w.heap.size w w9 := HT.out.2.2.2.2.2.1.trans (HU.out.2.mono HT.out.2.2.2.2.2.1.size)
            exact hb.trans (cP.below (fun s hs e => by omega) hb.size)
          have hsz9 : (w9.setCell ⟨wr.heap.size, 3, none⟩ (.slice ua9 ql.bs.length uc9)).heap.size = w9.heap.size := by simp [World.setCell]
          have hs9 := HU.out.2.size
          clear cP
          generalize w9.setCell ⟨wr.heap.size, 3, none⟩ (.slice ua9 ql.bs.length uc9) = wc at rP rB rN hps1 hps2 hu9 hBc hsz9 ⊢
          obtain ⟨a9, c9, hv9, _, _⟩ := hps1.form
          have hlk : (l.take k).length = k := by rw [List.length_take]; omega
          rw [hlk] at hps1 hv9
          have hv9' := hv9
          subst hv9'
          obtain ⟨B, hB⟩ : ∃ B, w.heap.size + 1 = B := ⟨_, rfl⟩
          obtain ⟨pb, hpb⟩ : ∃ pb, wr.heap.size = pb := ⟨_, rfl⟩
          have hBR : ¬ Value.ownBlock (.slice a9 k c9) = some B := fun e => by have := HX.out.2.2.2.2.1 B e; omega
          have hPR : ¬ Value.ownBlock (.slice a9 k c9) = some pb := fun e => by have := hvl pb e; omega
          have HV : Hid (∀ b, Value.ownBlock (.slice a9 k c9) = some b → b < wc.heap.size) := fun b hb => by have := hvl b hb; omega
          have HR : Hid (Rw 65 4 (.slice a9 k c9) k (pcells ps) wc ∧ k + 1 ≤ maxLen ∧ (k + 1) * 48 ≤ 140737488355328) := ⟨hps1, by unfold maxLen; omega, by omega⟩
          have HY := hid_of' (And.intro rN (And.intro hps2 (And.intro hu9 (And.intro hBc (And.intro hvl (And.intro hB hpb))))))
          have rP : RowAt pb (pcv ⟨p.s, p.f, p.t, (.slice ua9 ql.bs.length uc9)⟩) 65 wc := by rw [← hpb]; exact rP
          rw [hB] at rB ⊢
          rw [hpb]
          clear rN hps1 hps2 hu9 hBc hvl hlk hv9
          refine wp_region_once 8 (by kernel_rfl) (fun _ => none) (by kernel_rfl) (by kernel_rfl) (by decide) (fun i v x => match i with
            | 0 => v = .pointer (some ⟨B, 0, none⟩)
            | 1 => v = .pointer (some ⟨B, 0, none⟩)
            | 2 => v = .pointer (some ⟨B, 0, none⟩)
            | 3 => v = .pointer (some ⟨B, 2, none⟩)
            | 4 => v = .slice a9 k c9
            | 5 => v = .agg (pcv ⟨p.s, p.f, p.t, (.slice ua9 ql.bs.length uc9)⟩)
            | 6 => ∃ gs, v = .slice (some ⟨gs, 0, none⟩) 1 1 ∧ wc.heap.size ≤ gs ∧ CsIn gs 0 (pcv ⟨p.s, p.f, p.t, (.slice ua9 ql.bs.length uc9)⟩) x
            | 7 => Rw 65 4 v (k + 1) (pcells (ps ++ [⟨p.s, p.f, p.t, (.slice ua9 ql.bs.length uc9)⟩])) x ∧ At' wc (.slice a9 k c9) v
            | _ => True) (fun _ => false) (fun _ _ _ _ h => by cases h) 7 (by decide) (fun a b => World.grownBy a b (Value.ownBlock (.slice a9 k c9))) (fun a b => World.grownBy a b (Value.ownBlock (.slice a9 k c9))) (fun _ _ g h => grown_later g h) (fun _ h => grown_of h) (fun _ _ h g => grown_first h g) (fun _ _ g => g.size) ?_ ?_ ?_ ?_
          · intro i v x x' hR hb
            match i, hR with
            | 0, h => exact h
            | 1, h => exact h
            | 2, h => exact h
            | 3, h => exact h
            | 4, h => exact h
            | 5, h => exact h
            | 6, h => exact (by obtain ⟨gs, h1, h2, h3⟩ := h; exact ⟨gs, h1, h2, h3.later hb⟩)
            | 7, h => exact ⟨h.1.later hb, h.2⟩
            | m + 8, h => exact h
          · intro i v x x' hne hR hb
            match i, hne, hR with
            | 0, hne, h => exact h
            | 1, hne, h => exact h
            | 2, hne, h => exact h
            | 3, hne, h => exact h
            | 4, hne, h => exact h
            | 5, hne, h => exact h
            | 6, hne, h => exact (by obtain ⟨gs, h1, h2, h3⟩ := h; exact ⟨gs, h1, h2, h3.ch (grown_ch hb) (fun e => by have := HV.out gs e; omega)⟩)
            | 7, hne, h => exact absurd rfl hne
            | m + 8, _, h => exact h
          · intro i o hi ho q x vals hX hC hdep hoth
            have t6 : q.tmps[6]? = some (.pointer (some ⟨B, 0, none⟩)) := by rw [hoth 6 (by kernel_rfl)]; rfl
            have t8 : q.tmps[8]? = some (.pointer (some ⟨pb, 0, none⟩)) := by rw [hoth 8 (by kernel_rfl)]; rfl
            match i, hi, ho, hC with
            | 0, _, ho, hC =>
              simp only [List.getElem?_cons_zero, Option.some.injEq] at ho
              subst ho
              unfold Oper.wp
              simp [execOp, go_sem, t6]
              exact cameB _ rfl (by decide) (Below.refl _ _) rfl (fun h => absurd h (by decide))
            | 1, _, ho, hC =>
              simp only [List.getElem?_cons_succ, List.getElem?_cons_zero, Option.some.injEq] at ho
              subst ho
              unfold Oper.wp
              simp [execOp, go_sem, t6]
              exact cameB _ rfl (by decide) (Below.refl _ _) rfl (fun h => absurd h (by decide))
            | 2, _, ho, hC =>
              simp only [List.getElem?_cons_succ, List.getElem?_cons_zero, Option.some.injEq] at ho
              subst ho
              obtain ⟨u1, e1⟩ := hdep ⟨1, .data⟩ (by simp) rfl _ 73 rfl rfl
              rw [show vals 1 = .pointer (some ⟨B, 0, none⟩) from e1] at u1
              unfold Oper.wp
              simp [execOp, go_sem, u1]
              exact cameB _ rfl (by decide) (Below.refl _ _) rfl (fun h => absurd h (by decide))
            | 3, _, ho, hC =>
              simp only [List.getElem?_cons_succ, List.getElem?_cons_zero, Option.some.injEq] at ho
              subst ho
              obtain ⟨u2, e2⟩ := hdep ⟨2, .data⟩ (by simp) rfl _ 74 rfl rfl
              rw [show vals 2 = .pointer (some ⟨B, 0, none⟩) from e2] at u2
              unfold Oper.wp
              simp [execOp, go_sem, u2]
              exact cameB _ rfl (by decide) (Below.refl _ _) rfl (fun h => absurd h (by decide))
            | 4, _, ho, hC =>
              simp only [List.getElem?_cons_succ, List.getElem?_cons_zero, Option.some.injEq] at ho
              subst ho
              obtain ⟨u3, e3⟩ := hdep ⟨3, .data⟩ (by simp) rfl _ 75 rfl rfl
              rw [show vals 3 = .pointer (some ⟨B, 2, none⟩) from e3] at u3
              have cc : x.cell? ⟨B, 2, none⟩ = some (.slice a9 k c9) := (RowAt.grow rB hX hBR).cellIs 2 rfl
              unfold Oper.wp
              simp [execOp, go_sem, u3, cc]
              exact cameB _ rfl (by decide) (Below.refl _ _) rfl (fun h => absurd h (by decide))
            | 5, _, ho, hC =>
              simp only [List.getElem?_cons_succ, List.getElem?_cons_zero, Option.some.injEq] at ho
              subst ho
              exact opw_loadP _ rfl (by simp [Act.eval, t8]) ((RowAt.grow rP hX hPR).in) (cameB _ rfl (by decide) (Below.refl _ _) rfl (fun h => absurd h (by decide)))
            | 6, _, ho, hC =>
              simp only [List.getElem?_cons_succ, List.getElem?_cons_zero, Option.some.injEq] at ho
              subst ho
              obtain ⟨u5, e5⟩ := hdep ⟨5, .data⟩ (by simp) rfl _ 77 rfl rfl
              rw [show vals 5 = .agg (pcv ⟨p.s, p.f, p.t, (.slice ua9 ql.bs.length uc9)⟩) from e5] at u5
              have hgx := hX.size
              refine opw_one (p := ⟨p.s, p.f, p.t, (.slice ua9 ql.bs.length uc9)⟩) _ rfl (by simp [Act.eval, u5]) HP1 ?_
              exact cameB _ rfl (by decide) (below_one _ _) ⟨x.heap.size, rfl, by omega, (row_new x _ _).in⟩ (fun h => absurd h (by decide))
            | 7, _, ho, hC =>
              simp only [List.getElem?_cons_succ, List.getElem?_cons_zero, Option.some.injEq] at ho
              subst ho
              obtain ⟨u4, e4⟩ := hdep ⟨4, .data⟩ (by simp) rfl _ 76 rfl rfl
              rw [show vals 4 = .slice a9 k c9 from e4] at u4
              obtain ⟨u6, e6⟩ := hdep ⟨6, .data⟩ (by simp) rfl _ 78 rfl rfl
              have hb := hC (.inl rfl)
              obtain ⟨gs, e6, h2, h3⟩ : ∃ gs, vals 6 = .slice (some ⟨gs, 0, none⟩) 1 1 ∧ wc.heap.size ≤ gs ∧ CsIn gs 0 (pcv ⟨p.s, p.f, p.t, (.slice ua9 ql.bs.length uc9)⟩) x := e6
              rw [e6] at u6
              refine opw_app (P := Tryd.prog) _ _ 45 rfl 65 i0 _ 4 48 Tryd.underlying45 HI.out.1 HI.out.2.1 HI.out.2.2.1 HI.out.2.2.2 rfl (by simp [Act.eval, u4]) (by simp [Act.eval, u6]) (HR.out.1.later hb) (so_one h3) (pcells_one [⟨p.s, p.f, p.t, (.slice ua9 ql.bs.length uc9)⟩] (fun p' hp => by rw [List.mem_singleton] at hp; subst hp; exact HP1)) HR.out.2.1 HR.out.2.2 ?_
              intro v' x' q1 q2 q3
              exact cameX _ rfl q2 ⟨by rw [pcells_app]; exact q1, fun k hk => (q3 k hk).elim (fun q => .inl q) (fun q => .inr (Nat.le_trans hb.size q))⟩ rfl
            | m + 8, hi, _, _ => exact absurd hi (by omega)
          · intro vals x hX hR _
            have e0 : vals 0 = .pointer (some ⟨B, 0, none⟩) := hR 0 (by decide)
            obtain ⟨q1, q2⟩ : Rw 65 4 (vals 7) (k + 1) (pcells (ps ++ [⟨p.s, p.f, p.t, (.slice ua9 ql.bs.length uc9)⟩])) x ∧ At' wc (.slice a9 k c9) (vals 7) := hR 7 (by decide)
            obtain ⟨xa, xc, e7, _, _⟩ := q1.form
            rw [e7] at q1 q2
            have hx := RowAt.grow rB hX hBR
            have cB := hx.cellIs 2 rfl
            have fB := hx.froz 2
            have rBy := hx.setc 2 (.slice xa (k + 1) xc)
            have hB := HY.out.2.2.2.2.2.1
            have hpb := HY.out.2.2.2.2.2.2
            have hvl := HY.out.2.2.2.2.1
            have hq2 : ∀ b, Value.ownBlock (.slice xa (k + 1) xc) = some b → w.heap.size + 1 < b := fun b hb => by
              rcases q2 b hb with q | q
              · exact HX.out.2.2.2.2.1 b q
              · omega
            have cset : Ch (fun s => s = B) x (x.setCell ⟨B, 2, none⟩ (.slice xa (k + 1) xc)) := Ch.set (S := fun s => s = B) (Ch.refl _ x) (p := ⟨B, 2, none⟩) (.inl rfl) _
            have qy := q1.ch cset (fun b hb e => by have := hq2 b hb; omega)
            have gx := grown_ch hX
            have rNy := (HY.out.1.ch gx (fun e => by have := HX.out.2.2.2.2.1 _ e; omega)).ch cset (by omega)
            have psy : PsAt (fun b => w.heap.size + 1 < b) (ps ++ [⟨p.s, p.f, p.t, (.slice ua9 ql.bs.length uc9)⟩]) (l.take (k + 1)) (x.setCell ⟨B, 2, none⟩ (.slice xa (k + 1) xc)) := by
              rw [take_one HQ.out.1]
              refine PsAt.app ?_ (PsAt.one ⟨HQ.out.2.2.s, HQ.out.2.2.f, HQ.out.2.2.t, ?_, HQ.out.2.1⟩)
              · exact (((HY.out.2.1.ch gx (fun b hb e => hb.2.2 b e rfl)).ch cset (fun b hb e => by have := hb.1; omega)).mono (fun b hb _ => hb.1))
              · exact (((HY.out.2.2.1.ch gx (fun b hb e => by have := hvl b e; omega)).ch cset (fun b hb e => by omega)).mono (fun b hb _ => by omega))
            have hBy : Below w.heap.size w (x.setCell ⟨B, 2, none⟩ (.slice xa (k + 1) xc)) := by
              have hb : Below w.heap.size w x := HY.out.2.2.2.1.trans (gx.below (fun s hs e => by have := HX.out.2.2.2.2.1 s e; omega) HY.out.2.2.2.1.size)
              exact hb.trans (cset.below (fun s hs e => by omega) hb.size)
            have HZ := hid_of' (And.intro rBy (And.intro qy (And.intro rNy (And.intro psy (And.intro hBy hq2)))))
            clear rBy qy rNy psy hBy hq2 q1 q2 hx gx cset hR hX hvl
            simp only [List.drop, List.take, putAll, List.setIfInBounds_toArray, List.set_cons_succ, List.set_cons_zero, e0, e7]
            clear e0 e7
            subst hB hpb
            go_wp2
            go_roundw
            case rel =>
              refine ⟨k + 1, .slice xa (k + 1) xc, by go_num, by omega, HT2.out, HZ.out.2.2.1, ?_, ⟨ps ++ [⟨p.s, p.f, p.t, (.slice ua9 ql.bs.length uc9)⟩], ?_, HZ.out.2.2.2.1⟩, HZ.out.2.2.2.2.2, HZ.out.2.2.2.2.1⟩
              · rw [take_one HQ.out.1, maxS_app, ← HNX.out]
                exact HZ.out.1
              · rw [show (l.take (k + 1)).length = k + 1 by rw [List.length_take]; omega]
                exact HZ.out.2.1
            case measure => simp [intOf]; omega
        · have y3 : decide (Z + 1 ≤ p.s) = false := decide_eq_false hge
          go_upto_region 12 with fail
          refine wp_region_cls (by kernel_rfl) (by kernel_rfl) ?_
          repeat (first | go_big_quiet_skip | (go_big_quiet_want; first | (go_big_quiet_op; first | go_big_quiet_on | go_big_quiet_call ((fail)))))
          refine wpQuiet_nil ?_
          rintro w1 ⟨s1, e1⟩
          have hb1 := wOf_below s1
          rw [← e1] at hb1
          clear e1 s1
          replace hB := bgo hB hb1
          clear hb1
          have hb7 := hB
          have hb8 := bgo HB6.out hb7
          have HT := hid_of' (And.intro (H6.out.2.1.later hb7) (And.intro (H6.out.1.later hb7) (And.intro (HX.out.2.2.2.1.bne.later hb8) (And.intro (H6.out.2.2.2.b.later hb7) (And.intro (HX.out.2.1.later hb8) (And.intro (HX.out.2.2.2.2.2.trans (hb8.mono HX.out.2.2.2.2.2.size)) (H6.out.1.later hb7).lt))))))
          have HNX : Hid (Z + 1 = max (maxS (l.take k)) ql.s + 1) := by show Z + 1 = _; rw [HZ0.out, ← HPZ.out]; omega
          clear y3 z0 z1 hB hb7 hb8
          go_upto_region 14 with fail
          generalize w1 = w8 at HT ⊢
          have hr5 := HT.out.2.1
          have c3 : w8.cell? ⟨wr.heap.size, 3, none⟩ = some p.b := hr5.cellIs 3 rfl
          have HC := hid_of' (refCopied_any HT.out.2.2.2.1 HQ.out.2.1)
          clear hr5
          go_upto_region 15 with (go_at_call 50; refine HC.out.mono ?_; rintro e w9 ⟨u9, rfl, hu9, hb9⟩; clear HC; obtain ⟨ua9, uc9, rfl⟩ := hu9.sl.form; have c9_ : w9.cell? ⟨wr.heap.size, 3, none⟩ = some p.b := (HT.out.2.1.later hb9).cellIs 3 rfl; have f9_ := (HT.out.2.1.later hb9).froz 3; have HU := hid_of' (And.intro hu9 hb9); clear hu9 hb9)
          clear c3 c9_ f9_
          have HP1 : (Value.slice ua9 ql.bs.length uc9).oneCell' = true := rfl
          have rP := (HT.out.2.1.later HU.out.2).setc 3 (.slice ua9 ql.bs.length uc9)
          have cP : Ch (fun s => s = wr.heap.size) w9 (w9.setCell ⟨wr.heap.size, 3, none⟩ (.slice ua9 ql.bs.length uc9)) := Ch.set (S := fun s => s = wr.heap.size) (Ch.refl _ _) (p := ⟨wr.heap.size, 3, none⟩) (.inl rfl) _
          have rB := (HT.out.1.later HU.out.2).ch cP (by omega)
          have rN := (HT.out.2.2.2.2.1.later HU.out.2).ch cP (by omega)
          obtain ⟨ps, hps1, hps2⟩ := HT.out.2.2.1
          have hvl : ∀ b, v9.ownBlock = some b → b < wr.heap.size := HX.out.2.2.2.1.lt
          have hs8 := HT.out.2.2.2.2.2.2
          have hps1 := (hps1.later HU.out.2).ch cP (fun b hb e => by have := hvl b hb; omega)
          have hps2 := (hps2.later HU.out.2).ch cP (fun b hb e => by have := hb.2.1; omega)
          have hu9 := HU.out.1.ch cP (fun b hb e => by omega)
          have hBc : Below w.heap.size w (w9.setCell ⟨wr.heap.size, 3, none⟩ (.slice ua9 ql.bs.length uc9)) := by
            have hb : Below w.heap.size w w9 := HT.out.2.2.2.2.2.1.trans (HU.out.2.mono HT.out.2.2.2.2.2.1.size)
            exact hb.trans (cP.below (fun s hs e => by omega) hb.size)
          have hsz9 : (w9.setCell ⟨wr.heap.size, 3, none⟩ (.slice ua9 ql.bs.length uc9)).heap.size = w9.heap.size := by simp [World.setCell]
          have hs9 := HU.out.2.size
          clear cP
          generalize w9.setCell ⟨wr.heap.size, 3, none⟩ (.slice ua9 ql.bs.length uc9) = wc at rP rB rN hps1 hps2 hu9 hBc hsz9 ⊢
          obtain ⟨a9, c9, hv9, _, _⟩ := hps1.form
          have hlk : (l.take k).length = k := by rw [List.length_take]; omega
          rw [hlk] at hps1 hv9
          have hv9' := hv9
          subst hv9'
          obtain ⟨B, hB⟩ : ∃ B, w.heap.size + 1 = B := ⟨_, rfl⟩
          obtain ⟨pb, hpb⟩ : ∃ pb, wr.heap.size = pb := ⟨_, rfl⟩
          have hBR : ¬ Value.ownBlock (.slice a9 k c9) = some B := fun e => by have := HX.out.2.2.2.2.1 B e; omega
          have hPR : ¬ Value.ownBlock (.slice a9 k c9) = some pb := fun e => by have := hvl pb e; omega
          have HV : Hid (∀ b, Value.ownBlock (.slice a9 k c9) = some b → b < wc.heap.size) := fun b hb => by have := hvl b hb; omega
          have HR : Hid (Rw 65 4 (.slice a9 k c9) k (pcells ps) wc ∧ k + 1 ≤ maxLen ∧ (k + 1) * 48 ≤ 140737488355328) := ⟨hps1, by unfold maxLen; omega, by omega⟩
          have HY := hid_of' (And.intro rN (And.intro hps2 (And.intro hu9 (And.intro hBc (And.intro hvl (And.intro hB hpb))))))
          have rP : RowAt pb (pcv ⟨p.s, p.f, p.t, (.slice ua9 ql.bs.length uc9)⟩) 65 wc := by rw [← hpb]; exact rP
          rw [hB] at rB ⊢
          rw [hpb]
          clear rN hps1 hps2 hu9 hBc hvl hlk hv9
          refine wp_region_once 8 (by kernel_rfl) (fun _ => none) (by kernel_rfl) (by kernel_rfl) (by decide) (fun i v x => match i with
            | 0 => v = .pointer (some ⟨B, 0, none⟩)
            | 1 => v = .pointer (some ⟨B, 0, none⟩)
            | 2 => v = .pointer (some ⟨B, 0, none⟩)
            | 3 => v = .pointer (some ⟨B, 2, none⟩)
            | 4 => v = .slice a9 k c9
            | 5 => v = .agg (pcv ⟨p.s, p.f, p.t, (.slice ua9 ql.bs.length uc9)⟩)
            | 6 => ∃ gs, v = .slice (some ⟨gs, 0, none⟩) 1 1 ∧ wc.heap.size ≤ gs ∧ CsIn gs 0 (pcv ⟨p.s, p.f, p.t, (.slice ua9 ql.bs.length uc9)⟩) x
            | 7 => Rw 65 4 v (k + 1) (pcells (ps ++ [⟨p.s, p.f, p.t, (.slice ua9 ql.bs.length uc9)⟩])) x ∧ At' wc (.slice a9 k c9) v
            | _ => True) (fun _ => false) (fun _ _ _ _ h => by cases h) 7 (by decide) (fun a b => World.grownBy a b (Value.ownBlock (.slice a9 k c9))) (fun a b => World.grownBy a b (Value.ownBlock (.slice a9 k c9))) (fun _ _ g h => grown_later g h) (fun _ h => grown_of h) (fun _ _ h g => grown_first h g) (fun _ _ g => g.size) ?_ ?_ ?_ ?_
          · intro i v x x' hR hb
            match i, hR with
            | 0, h => exact h
            | 1, h => exact h
            | 2, h => exact h
            | 3, h => exact h
            | 4, h => exact h
            | 5, h => exact h
            | 6, h => exact (by obtain ⟨gs, h1, h2, h3⟩ := h; exact ⟨gs, h1, h2, h3.later hb⟩)
            | 7, h => exact ⟨h.1.later hb, h.2⟩
            | m + 8, h => exact h
          · intro i v x x' hne hR hb
            match i, hne, hR with
            | 0, hne, h => exact h
            | 1, hne, h => exact h
            | 2, hne, h => exact h
            | 3, hne, h => exact h
            | 4, hne, h => exact h
            | 5, hne, h => exact h
            | 6, hne, h => exact (by obtain ⟨gs, h1, h2, h3⟩ := h; exact ⟨gs, h1, h2, h3.ch (grown_ch hb) (fun e => by have := HV.out gs e; omega)⟩)
            | 7, hne, h => exact absurd rfl hne
            | m + 8, _, h => exact h
          · intro i o hi ho q x vals hX hC hdep hoth
            have t6 : q.tmps[6]? = some (.pointer (some ⟨B, 0, none⟩)) := by rw [hoth 6 (by kernel_rfl)]; rfl
            have t8 : q.tmps[8]? = some (.pointer (some ⟨pb, 0, none⟩)) := by rw [hoth 8 (by kernel_rfl)]; rfl
            match i, hi, ho, hC with
            | 0, _, ho, hC =>
              simp only [List.getElem?_cons_zero, Option.some.injEq] at ho
              subst ho
              unfold Oper.wp
              simp [execOp, go_sem, t6]
              exact cameB _ rfl (by decide) (Below.refl _ _) rfl (fun h => absurd h (by decide))
            | 1, _, ho, hC =>
              simp only [List.getElem?_cons_succ, List.getElem?_cons_zero, Option.some.injEq] at ho
              subst ho
              unfold Oper.wp
              simp [execOp, go_sem, t6]
              exact cameB _ rfl (by decide) (Below.refl _ _) rfl (fun h => absurd h (by decide))
            | 2, _, ho, hC =>
              simp only [List.getElem?_cons_succ, List.getElem?_cons_zero, Option.some.injEq] at ho
              subst ho
              obtain ⟨u1, e1⟩ := hdep ⟨1, .data⟩ (by simp) rfl _ 73 rfl rfl
              rw [show vals 1 = .pointer (some ⟨B, 0, none⟩) from e1] at u1
              unfold Oper.wp
              simp [execOp, go_sem, u1]
              exact cameB _ rfl (by decide) (Below.refl _ _) rfl (fun h => absurd h (by decide))
            | 3, _, ho, hC =>
              simp only [List.getElem?_cons_succ, List.getElem?_cons_zero, Option.some.injEq] at ho
              subst ho
              obtain ⟨u2, e2⟩ := hdep ⟨2, .data⟩ (by simp) rfl _ 74 rfl rfl
              rw [show vals 2 = .pointer (some ⟨B, 0, none⟩) from e2] at u2
              unfold Oper.wp
              simp [execOp, go_sem, u2]
              exact cameB _ rfl (by decide) (Below.refl _ _) rfl (fun h => absurd h (by decide))
            | 4, _, ho, hC =>
              simp only [List.getElem?_cons_succ, List.getElem?_cons_zero, Option.some.injEq] at ho
              subst ho
              obtain ⟨u3, e3⟩ := hdep ⟨3, .data⟩ (by simp) rfl _ 75 rfl rfl
              rw [show vals 3 = .pointer (some ⟨B, 2, none⟩) from e3] at u3
              have cc : x.cell? ⟨B, 2, none⟩ = some (.slice a9 k c9) := (RowAt.grow rB hX hBR).cellIs 2 rfl
              unfold Oper.wp
              simp [execOp, go_sem, u3, cc]
              exact cameB _ rfl (by decide) (Below.refl _ _) rfl (fun h => absurd h (by decide))
            | 5, _, ho, hC =>
              simp only [List.getElem?_cons_succ, List.getElem?_cons_zero, Option.some.injEq] at ho
              subst ho
              exact opw_loadP _ rfl (by simp [Act.eval, t8]) ((RowAt.grow rP hX hPR).in) (cameB _ rfl (by decide) (Below.refl _ _) rfl (fun h => absurd h (by decide)))
            | 6, _, ho, hC =>
              simp only [List.getElem?_cons_succ, List.getElem?_cons_zero, Option.some.injEq] at ho
              subst ho
              obtain ⟨u5, e5⟩ := hdep ⟨5, .data⟩ (by simp) rfl _ 77 rfl rfl
              rw [show vals 5 = .agg (pcv ⟨p.s, p.f, p.t, (.slice ua9 ql.bs.length uc9)⟩) from e5] at u5
              have hgx := hX.size
              refine opw_one (p := ⟨p.s, p.f, p.t, (.slice ua9 ql.bs.length uc9)⟩) _ rfl (by simp [Act.eval, u5]) HP1 ?_
              exact cameB _ rfl (by decide) (below_one _ _) ⟨x.heap.size, rfl, by omega, (row_new x _ _).in⟩ (fun h => absurd h (by decide))
            | 7, _, ho, hC =>
              simp only [List.getElem?_cons_succ, List.getElem?_cons_zero, Option.some.injEq] at ho
              subst ho
              obtain ⟨u4, e4⟩ := hdep ⟨4, .data⟩ (by simp) rfl _ 76 rfl rfl
              rw [show vals 4 = .slice a9 k c9 from e4] at u4
              obtain ⟨u6, e6⟩ := hdep ⟨6, .data⟩ (by simp) rfl _ 78 rfl rfl
              have hb := hC (.inl rfl)
              obtain ⟨gs, e6, h2, h3⟩ : ∃ gs, vals 6 = .slice (some ⟨gs, 0, none⟩) 1 1 ∧ wc.heap.size ≤ gs ∧ CsIn gs 0 (pcv ⟨p.s, p.f, p.t, (.slice ua9 ql.bs.length uc9)⟩) x := e6
              rw [e6] at u6
              refine opw_app (P := Tryd.prog) _ _ 45 rfl 65 i0 _ 4 48 Tryd.underlying45 HI.out.1 HI.out.2.1 HI.out.2.2.1 HI.out.2.2.2 rfl (by simp [Act.eval, u4]) (by simp [Act.eval, u6]) (HR.out.1.later hb) (so_one h3) (pcells_one [⟨p.s, p.f, p.t, (.slice ua9 ql.bs.length uc9)⟩] (fun p' hp => by rw [List.mem_singleton] at hp; subst hp; exact HP1)) HR.out.2.1 HR.out.2.2 ?_
              intro v' x' q1 q2 q3
              exact cameX _ rfl q2 ⟨by rw [pcells_app]; exact q1, fun k hk => (q3 k hk).elim (fun q => .inl q) (fun q => .inr (Nat.le_trans hb.size q))⟩ rfl
            | m + 8, hi, _, _ => exact absurd hi (by omega)
          · intro vals x hX hR _
            have e0 : vals 0 = .pointer (some ⟨B, 0, none⟩) := hR 0 (by decide)
            obtain ⟨q1, q2⟩ : Rw 65 4 (vals 7) (k + 1) (pcells (ps ++ [⟨p.s, p.f, p.t, (.slice ua9 ql.bs.length uc9)⟩])) x ∧ At' wc (.slice a9 k c9) (vals 7) := hR 7 (by decide)
            obtain ⟨xa, xc, e7, _, _⟩ := q1.form
            rw [e7] at q1 q2
            have hx := RowAt.grow rB hX hBR
            have cB := hx.cellIs 2 rfl
            have fB := hx.froz 2
            have rBy := hx.setc 2 (.slice xa (k + 1) xc)
            have hB := HY.out.2.2.2.2.2.1
            have hpb := HY.out.2.2.2.2.2.2
            have hvl := HY.out.2.2.2.2.1
            have hq2 : ∀ b, Value.ownBlock (.slice xa (k + 1) xc) = some b → w.heap.size + 1 < b := fun b hb => by
              rcases q2 b hb with q | q
              · exact HX.out.2.2.2.2.1 b q
              · omega
            have cset : Ch (fun s => s = B) x (x.setCell ⟨B, 2, none⟩ (.slice xa (k + 1) xc)) := Ch.set (S := fun s => s = B) (Ch.refl _ x) (p := ⟨B, 2, none⟩) (.inl rfl) _
            have qy := q1.ch cset (fun b hb e => by have := hq2 b hb; omega)
            have gx := grown_ch hX
            have rNy := (HY.out.1.ch gx (fun e => by have := HX.out.2.2.2.2.1 _ e; omega)).ch cset (by omega)
            have psy : PsAt (fun b => w.heap.size + 1 < b) (ps ++ [⟨p.s, p.f, p.t, (.slice ua9 ql.bs.length uc9)⟩]) (l.take (k + 1)) (x.setCell ⟨B, 2, none⟩ (.slice xa (k + 1) xc)) := by
              rw [take_one HQ.out.1]
              refine PsAt.app ?_ (PsAt.one ⟨HQ.out.2.2.s, HQ.out.2.2.f, HQ.out.2.2.t, ?_, HQ.out.2.1⟩)
              · exact (((HY.out.2.1.ch gx (fun b hb e => hb.2.2 b e rfl)).ch cset (fun b hb e => by have := hb.1; omega)).mono (fun b hb _ => hb.1))
              · exact (((HY.out.2.2.1.ch gx (fun b hb e => by have := hvl b e; omega)).ch cset (fun b hb e => by omega)).mono (fun b hb _ => by omega))
            have hBy : Below w.heap.size w (x.setCell ⟨B, 2, none⟩ (.slice xa (k + 1) xc)) := by
              have hb : Below w.heap.size w x := HY.out.2.2.2.1.trans (gx.below (fun s hs e => by have := HX.out.2.2.2.2.1 s e; omega) HY.out.2.2.2.1.size)
              exact hb.trans (cset.below (fun s hs e => by omega) hb.size)
            have HZ := hid_of' (And.intro rBy (And.intro qy (And.intro rNy (And.intro psy (And.intro hBy hq2)))))
            clear rBy qy rNy psy hBy hq2 q1 q2 hx gx cset hR hX hvl
            simp only [List.drop, List.take, putAll, List.setIfInBounds_toArray, List.set_cons_succ, List.set_cons_zero, e0, e7]
            clear e0 e7
            subst hB hpb
            go_wp2
            go_roundw
            case rel =>
              refine ⟨k + 1, .slice xa (k + 1) xc, by go_num, by omega, HT2.out, HZ.out.2.2.1, ?_, ⟨ps ++ [⟨p.s, p.f, p.t, (.slice ua9 ql.bs.length uc9)⟩], ?_, HZ.out.2.2.2.1⟩, HZ.out.2.2.2.2.2, HZ.out.2.2.2.2.1⟩
              · rw [take_one HQ.out.1, maxS_app, ← HNX.out]
                exact HZ.out.1
              · rw [show (l.take (k + 1)).length = k + 1 by rw [List.length_take]; omega]
                exact HZ.out.2.1
            case measure => simp [intOf]; omega
      · have HBad : Hid (rightP ql = false) := by show rightP ql = false; simpa using hgood
        have HS : Hid (∀ x, Calls Tryd.prog 16 #[.string bBag, .string bLoad, .int .i64 (k : Int), .int .i64 6] x fun e w' => ∃ v, e = .returned v ∧ NoR x.heap.size (some (bLoad, (k : Int), 5)) v w' ∧ Below x.heap.size x w') := fun x => say_is bLoad (k : Int) 5 x
        clear hgood
        cases y1 : decide (ql.s < 1)
        · cases y2 : decide (4611686018427387904 < ql.s)
          · have g3 : endsB ql.f ql.t = false := by
              have e1 := of_decide_eq_false y1
              have e2 := of_decide_eq_false y2
              have := HBad.out
              unfold rightP at this
              rw [decide_eq_true (show 1 ≤ ql.s by omega), decide_eq_true (show ql.s ≤ 4611686018427387904 by omega)] at this
              simpa using this
            have HE3 : Hid (∀ x, Calls Tryd.prog 49 #[.int .i64 ql.f, .int .i64 ql.t] x fun e w' => e = .returned (.bool false) ∧ w' = x) := fun x => by have := HE.out x; rw [g3] at this; exact this
            clear g3 HE
            refine wp_region_cls0 ?_
            repeat (first | go_big_quiet_skip | (go_big_quiet_want; first | (go_big_quiet_op; first | go_big_quiet_on | go_big_quiet_call ((go_at_call 49; exact cls_of_same (HE3.out _))))))
            refine wpQuiet_nil ?_
            rintro w1 ⟨s1, e1⟩
            have hb1 := wOf_below s1
            rw [← e1] at hb1
            clear e1 s1
            replace hB := bgo hB hb1
            clear hb1
            clear y1 y2
            have hb6 := hB
            clear hB x0 x1 x2
            have hb6' := bgo H5.out.2 hb6
            have HB := hid_of' (And.intro (bgo HX.out.2.2.2.2.2 hb6') (HX.out.2.1.later hb6'))
            have hs6 := hb6'.size
            clear hb6 hb6' H5
            go_wp2_with (first | (go_at_call 16; refine (HS.out _).mono ?_; rintro e w2 ⟨u, rfl, ⟨g1, g2, rfl, h2, h3, h4, h5⟩, hb2⟩; have HN := hid_of' (And.intro h2 (And.intro h3 (And.intro h4 (And.intro h5 hb2)))); clear h2 h3 h4 h5 hb2) | (refine wpL_storeNo rfl _ _ rfl rfl (code := ((5 : Nat) : Int) + 1) (a := some ⟨g2, 0, none⟩) (n := 1) (c := 1) (a' := some ⟨g1, 0, none⟩) (n' := 1) (c' := 1) rfl (HB.out.2.later HN.out.2.2.2.2) ?_))
            have hs1 := HB.out.1.size
            have hg1 := HN.out.1
            have hg2 := HN.out.2.1
            have cR := Ch.row (S := fun s => s = w.heap.size) (Ch.refl _ w2) (.inl rfl) (nov (((5 : Nat) : Int) + 1) (some ⟨g2, 0, none⟩) 1 1 (some ⟨g1, 0, none⟩) 1 1)
            exact bodyPost_ret (v := .tuple #[.pointer none, .agg (nov (((5 : Nat) : Int) + 1) (some ⟨g2, 0, none⟩) 1 1 (some ⟨g1, 0, none⟩) 1 1)]) (results_pn (fn := Tryd.f13) (p := 4) (q := 5) (g := w.heap.size) rfl rfl ((HB.out.2.later HN.out.2.2.2.2).put _) rfl) rfl ⟨⟨_, _, rfl, .inr ⟨k, ql, HQ.out.1, HBad.out, HX.out.1, rfl, g1, g2, rfl, by omega, by omega, HN.out.2.2.1.ch cR (by omega), HN.out.2.2.2.1.ch cR (by omega)⟩⟩, below_row (bgo HB.out.1 HN.out.2.2.2.2) (Nat.le_refl _) _⟩
          · clear HE
            refine wp_region_cls0 ?_
            repeat (first | go_big_quiet_skip | (go_big_quiet_want; first | (go_big_quiet_op; first | go_big_quiet_on | go_big_quiet_call ((fail)))))
            refine wpQuiet_nil ?_
            rintro w1 ⟨s1, e1⟩
            have hb1 := wOf_below s1
            rw [← e1] at hb1
            clear e1 s1
            replace hB := bgo hB hb1
            clear hb1
            clear y1 y2
            have hb6 := hB
            clear hB x0 x1 x2
            have hb6' := bgo H5.out.2 hb6
            have HB := hid_of' (And.intro (bgo HX.out.2.2.2.2.2 hb6') (HX.out.2.1.later hb6'))
            have hs6 := hb6'.size
            clear hb6 hb6' H5
            go_wp2_with (first | (go_at_call 16; refine (HS.out _).mono ?_; rintro e w2 ⟨u, rfl, ⟨g1, g2, rfl, h2, h3, h4, h5⟩, hb2⟩; have HN := hid_of' (And.intro h2 (And.intro h3 (And.intro h4 (And.intro h5 hb2)))); clear h2 h3 h4 h5 hb2) | (refine wpL_storeNo rfl _ _ rfl rfl (code := ((5 : Nat) : Int) + 1) (a := some ⟨g2, 0, none⟩) (n := 1) (c := 1) (a' := some ⟨g1, 0, none⟩) (n' := 1) (c' := 1) rfl (HB.out.2.later HN.out.2.2.2.2) ?_))
            have hs1 := HB.out.1.size
            have hg1 := HN.out.1
            have hg2 := HN.out.2.1
            have cR := Ch.row (S := fun s => s = w.heap.size) (Ch.refl _ w2) (.inl rfl) (nov (((5 : Nat) : Int) + 1) (some ⟨g2, 0, none⟩) 1 1 (some ⟨g1, 0, none⟩) 1 1)
            exact bodyPost_ret (v := .tuple #[.pointer none, .agg (nov (((5 : Nat) : Int) + 1) (some ⟨g2, 0, none⟩) 1 1 (some ⟨g1, 0, none⟩) 1 1)]) (results_pn (fn := Tryd.f13) (p := 4) (q := 5) (g := w.heap.size) rfl rfl ((HB.out.2.later HN.out.2.2.2.2).put _) rfl) rfl ⟨⟨_, _, rfl, .inr ⟨k, ql, HQ.out.1, HBad.out, HX.out.1, rfl, g1, g2, rfl, by omega, by omega, HN.out.2.2.1.ch cR (by omega), HN.out.2.2.2.1.ch cR (by omega)⟩⟩, below_row (bgo HB.out.1 HN.out.2.2.2.2) (Nat.le_refl _) _⟩
        · clear HE
          refine wp_region_cls0 ?_
          repeat (first | go_big_quiet_skip | (go_big_quiet_want; first | (go_big_quiet_op; first | go_big_quiet_on | go_big_quiet_call ((fail)))))
          refine wpQuiet_nil ?_
          rintro w1 ⟨s1, e1⟩
          have hb1 := wOf_below s1
          rw [← e1] at hb1
          clear e1 s1
          replace hB := bgo hB hb1
          clear hb1
          clear y1
          have hb6 := hB
          clear hB x0 x1 x2
          have hb6' := bgo H5.out.2 hb6
          have HB := hid_of' (And.intro (bgo HX.out.2.2.2.2.2 hb6') (HX.out.2.1.later hb6'))
          have hs6 := hb6'.size
          clear hb6 hb6' H5
          go_wp2_with (first | (go_at_call 16; refine (HS.out _).mono ?_; rintro e w2 ⟨u, rfl, ⟨g1, g2, rfl, h2, h3, h4, h5⟩, hb2⟩; have HN := hid_of' (And.intro h2 (And.intro h3 (And.intro h4 (And.intro h5 hb2)))); clear h2 h3 h4 h5 hb2) | (refine wpL_storeNo rfl _ _ rfl rfl (code := ((5 : Nat) : Int) + 1) (a := some ⟨g2, 0, none⟩) (n := 1) (c := 1) (a' := some ⟨g1, 0, none⟩) (n' := 1) (c' := 1) rfl (HB.out.2.later HN.out.2.2.2.2) ?_))
          have hs1 := HB.out.1.size
          have hg1 := HN.out.1
          have hg2 := HN.out.2.1
          have cR := Ch.row (S := fun s => s = w.heap.size) (Ch.refl _ w2) (.inl rfl) (nov (((5 : Nat) : Int) + 1) (some ⟨g2, 0, none⟩) 1 1 (some ⟨g1, 0, none⟩) 1 1)
          exact bodyPost_ret (v := .tuple #[.pointer none, .agg (nov (((5 : Nat) : Int) + 1) (some ⟨g2, 0, none⟩) 1 1 (some ⟨g1, 0, none⟩) 1 1)]) (results_pn (fn := Tryd.f13) (p := 4) (q := 5) (g := w.heap.size) rfl rfl ((HB.out.2.later HN.out.2.2.2.2).put _) rfl) rfl ⟨⟨_, _, rfl, .inr ⟨k, ql, HQ.out.1, HBad.out, HX.out.1, rfl, g1, g2, rfl, by omega, by omega, HN.out.2.2.1.ch cR (by omega), HN.out.2.2.2.1.ch cR (by omega)⟩⟩, below_row (bgo HB.out.1 HN.out.2.2.2.2) (Nat.le_refl _) _⟩
    · have hki : ¬ (k : Int) < (l.length : Int) := by omega
      have hkk : k = l.length := by omega
      have HK := hid_of' hkk
      clear hkk
      go_wp2_with (refine wpL_storeNo rfl _ _ rfl rfl (code := 0) (a := none) (n := 0) (c := 0) (a' := none) (n' := 0) (c' := 0) rfl HX.out.2.1 ?_)
      have hto := HX.out.1
      rw [HK.out] at hto
      have hms := maxS_le l (fun q hq => by
        obtain ⟨i, hi⟩ := List.getElem?_of_mem hq
        exact (rightP_ser (hto i q (List.getElem?_eq_some_iff.1 hi).1 hi)).2.1)
      have hw : wrap64 (maxS l + 1) = maxS l + 1 := by unfold wrap64; omega
      refine bodyPost_ret (v := .tuple #[.pointer (some ⟨w.heap.size + 1, 0, none⟩), .agg (nov 0 none 0 0 none 0 0)]) (results_pn (fn := Tryd.f13) (p := 4) (q := 5) (g := w.heap.size) rfl rfl (HX.out.2.1.put _) rfl) rfl ⟨⟨_, _, rfl, .inl ⟨hto, rfl, w.heap.size + 1, v9, rfl, by omega, ⟨?_, ?_, H.out.2.2.1, ?_⟩, fun b hb => by have := HX.out.2.2.2.2.1 b hb; omega⟩⟩, below_row HX.out.2.2.2.2.2 (Nat.le_refl _) _⟩
      · have := HX.out.2.2.1.other w.heap.size (nov 0 none 0 0 none 0 0) (by omega)
        rw [HK.out, List.take_length] at this
        unfold ldG
        simp only
        rw [hw]
        exact this
      · have := HX.out.2.2.2.1.ch (Ch.row (S := fun s => s = w.heap.size) (Ch.refl _ wr) (.inl rfl) (nov 0 none 0 0 none 0 0)) (fun b hb e => by have := HX.out.2.2.2.2.1 b hb; omega) (fun b hb e => by omega)
        rw [HK.out, List.take_length] at this
        exact this.mono (fun b hb _ => by omega)
      · exact H.out.2.2.2
end Go.Proofs.YtdojjhhnciaegaaDoor
