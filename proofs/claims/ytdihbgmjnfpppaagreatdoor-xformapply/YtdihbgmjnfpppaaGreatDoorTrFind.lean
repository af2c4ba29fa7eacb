
/-
  tree.leafAt, (*tree.Tree).At; tree.passed, (*tree.Tree).Find.
-/
import Derived.Test.YtdihbgmjnfpppaaGreatDoorTrIns
namespace Go.Proofs.YtdihbgmjnfpppaaGreatDoor
open Go.RowKit
set_option maxRecDepth 100000

/-- Is it a leaf? -/
def Nd.isL : Nd → Bool
  | .leaf .. => true
  | .inner .. => false
set_option maxHeartbeats 400000 in
theorem isLeaf_any {R : Rows} {t : Nd} {w : World} (ht : t.At R w) : Calls Tryz.prog 62 #[pv t.blk] w fun r w' => r = .returned (.bool t.isL) ∧ w' = w := by
  cases t with
  | leaf b g o_ c l =>
    have c1 := ht.1.cell 0
    simp only [ndc] at c1
    unfold pv Nd.blk
    go_enter Tryz.func62, Tryz.ntmps62
    go_wp2
    go_ret
    exact ⟨rfl, rfl⟩
  | inner b x y =>
    have c1 := ht.1.cell 0
    simp only [ndc, pv] at c1
    unfold pv Nd.blk
    go_enter Tryz.func62, Tryz.ntmps62
    go_wp2
    go_ret
    exact ⟨rfl, rfl⟩
/-- The leaf in which a place lies, and where in it. -/
def Nd.leafAt : Nd → Nat → Value × Nat
  | .leaf _ g o_ c l, i => (.slice (some ⟨g, o_, none⟩) l.length c, i)
  | .inner _ x y, i => if i < x.els.length then x.leafAt i else y.leafAt (i - x.els.length)
theorem blk_row {R : Rows} {t : Nd} {w : World} (h : t.At R w) : ∃ lf rt leaf, RowAt t.blk (ndc lf rt leaf t.ht t.els.length (liveL t.els) (lineL t.els)) 125 w := h.row

set_option maxHeartbeats 2000000 in
theorem leafAt_any {R : Rows} (t : Nd) (i : Nat) (w : World) (ht : t.At R w) (hn : t.els.length ≤ 1073741824) (hi : i ≤ 1073741824) :
    Calls Tryz.prog 61 #[pv t.blk, .int .i64 (i : Int)] w fun r w' => r = .returned (.tuple #[(t.leafAt i).1, .int .i64 ((t.leafAt i).2 : Int)]) ∧ w' = w := by
  unfold pv
  go_enter Tryz.func61, Tryz.ntmps61
  go_wp2
  go_loopg [0, 1] t.ht (fun k v iv wr => ∃ (t' : Nd) (i' : Nat), k = t'.ht ∧ v = .pointer (some ⟨t'.blk, 0, none⟩) ∧ iv = .int .i64 (i' : Int) ∧ i' ≤ 1073741824 ∧ t'.At R w ∧ t'.els.length ≤ 1073741824 ∧ Hid (t.leafAt i = t'.leafAt i') ∧ wr = w)
  case atStart => exact ⟨t, i, rfl, rfl, rfl, hi, ht, hn, rfl, rfl⟩
  case round =>
    obtain ⟨t', i', hgk, rfl, rfl, hi', ht', hn', HQ, hw⟩ := hrel
    have hw' : w = wr := hw.symm
    subst hw'
    clear hw
    have HI := hid_of' (isLeaf_any ht')
    unfold pv at HI
    cases t' with
    | leaf b g o_ c l =>
      have c1 := ht'.1.cell 2
      simp only [ndc] at c1
      unfold Nd.blk at *
      unfold Nd.isL at HI
      go_wp2_with (go_at_call 62; refine HI.out.mono ?_; rintro r w1 ⟨rfl, hw⟩; obtain rfl := hw.symm)
      go_ret2
      rw [HQ.out]
      exact ⟨rfl, rfl⟩
    | inner b x y =>
      have d0 := ht'.1.cell 0
      have d1 := ht'.1.cell 1
      simp only [ndc, pv] at d0 d1
      obtain ⟨a1, a2, a3, hr⟩ := ht'.2.1.row
      have c1 : w.cell? ⟨x.blk, 4, none⟩ = some (.int .i64 (x.els.length : Int)) := hr.cell 4
      have hx : x.els.length ≤ 1073741824 ∧ y.els.length ≤ 1073741824 := by simp only [Nd.els, List.length_append] at hn'; omega
      have HX := hid_of' (show x.At R w ∧ y.At R w ∧ x.els.length ≤ 1073741824 ∧ y.els.length ≤ 1073741824 from ⟨ht'.2.1, ht'.2.2, hx⟩)
      have HK := hid_of' hgk
      have hxi : (x.els.length : Int) ≤ 1073741824 := by omega
      replace HQ : Hid (t.leafAt i = if i' < x.els.length then x.leafAt i' else y.leafAt (i' - x.els.length)) := HQ
      unfold Nd.blk at HI ⊢
      unfold Nd.isL at HI
      clear hgk ht' hn' hr a1 a2 a3 hx
      by_cases hlt : i' < x.els.length
      · have hli : (i' : Int) < (x.els.length : Int) := by omega
        rw [if_pos hlt] at HQ
        go_wp2_with (go_at_call 62; refine HI.out.mono ?_; rintro r w1 ⟨rfl, hw⟩; obtain rfl := hw.symm)
        go_roundg x.ht
        case measure => rw [HK.out]; simp only [Nd.ht]; omega
        case rel => exact ⟨x, i', rfl, rfl, rfl, hi', HX.out.1, HX.out.2.2.1, HQ, rfl⟩
      · have hli : ¬ (i' : Int) < (x.els.length : Int) := by omega
        rw [if_neg hlt] at HQ
        have hsub : (i' : Int) - (x.els.length : Int) = ((i' - x.els.length : Nat) : Int) := by omega
        go_wp2_with (go_at_call 62; refine HI.out.mono ?_; rintro r w1 ⟨rfl, hw⟩; obtain rfl := hw.symm)
        go_roundg y.ht
        case measure => rw [HK.out]; simp only [Nd.ht]; omega
        case rel => exact ⟨y, i' - x.els.length, rfl, rfl, by go_num, by omega, HX.out.2.1, HX.out.2.2.2, HQ, rfl⟩
theorem leafAt_spec {R : Rows} : ∀ (t : Nd) (i : Nat) (w : World), t.At R w → i < t.els.length → ∃ g o_ c l j, t.leafAt i = (.slice (some ⟨g, o_, none⟩) l.length c, j) ∧ ElsAt g o_ l w ∧ l[j]? = t.els[i]? ∧ j < l.length
  | .leaf b g o_ c l, i, w, h, hi => ⟨g, o_, c, l, i, rfl, h.2.1, rfl, hi⟩
  | .inner b x y, i, w, h, hi => by
    unfold Nd.leafAt
    simp only [Nd.els] at hi ⊢
    by_cases hlt : i < x.els.length
    · rw [if_pos hlt, List.getElem?_append_left hlt]
      exact leafAt_spec x i w h.2.1 hlt
    · rw [if_neg hlt, List.getElem?_append_right (by omega)]
      exact leafAt_spec y (i - x.els.length) w h.2.2 (by rw [List.length_append] at hi; omega)

theorem results_e2 {fn : Func} {p u : Tmp} {tmps : Array Value} {w : World} {g : Nat} {e : El} (h : fn.results = #[.cell p 49, .tmp u]) (hp : tmps.getD p undef = .pointer (some ⟨g, 0, none⟩)) (hg : RowAt g (ev e) 49 w) :
    (results fn tmps).run Tryz.prog w = .ok (.tuple #[.agg (ev e), tmps.getD u undef]) w := by
  have hp' : tmps[p]?.getD undef = .pointer (some ⟨g, 0, none⟩) := by simpa using hp
  simp [results, h, hp', asAddr, run_loadVar_row w g _ _ _ _ _ hg Tryz.underlying49 rfl (e_size e)]
set_option maxHeartbeats 2000000 in
/-- At, of a place that there is. -/
theorem at_ok {R : Rows} {b ch : Nat} {t : Nd} {w : World} (i : Nat) (e : El) (h1 : RowAt b #[.int .i64 (ch : Int), pv t.blk] 89 w) (h2 : t.At R w) (h3 : t.Full) (hn : t.els.length ≤ 1073741824) (he : t.els[i]? = some e) :
    Calls Tryz.prog 72 #[pv b, .int .i64 (i : Int)] w fun r w' => r = .returned (.tuple #[.agg (ev e), .nilIface]) ∧ Below w.heap.size w w' := by
  have hi : i < t.els.length := (List.getElem?_eq_some_iff.1 he).1
  obtain ⟨g, o_, c, l, j, q1, q2, q3, q4⟩ := leafAt_spec t i w h2 hi
  rw [he] at q3
  have hB := below_one w (.cells #[.int .i64 0, .int .i64 0, .int .i64 0, .int .i32 0, .int .i64 0] 49)
  have HL := hid_of' (len_any (b := b) (ch := ch) (.inr ⟨t, h1.later hB, h2.later hB, h3, rfl⟩))
  have HA := hid_of' (leafAt_any t i _ (h2.later hB) hn (by omega))
  rw [q1] at HA
  have cE := (q2.later hB) j e q3
  have c1 := (h1.later hB).cell 1
  simp only [pv] at c1
  unfold pv at *
  have e1 : ¬ (i : Int) < 0 := by omega
  have e2 : ¬ (t.els.length : Int) ≤ (i : Int) := by omega
  have e3 : (j : Int) < (l.length : Int) := by omega
  clear q1 q2 q3 he h2 h3 h1
  go_enter Tryz.func72, Tryz.ntmps72
  go_wp2_with (first | (go_at_call 42; refine HL.out.mono ?_; rintro r w1 ⟨rfl, hw⟩; obtain rfl := hw.symm) | (go_at_call 61; refine HA.out.mono ?_; rintro r w1 ⟨rfl, hw⟩; obtain rfl := hw.symm) | (refine wpL_loadE rfl _ rfl rfl cE ?_) | (refine wpL_storeE rfl _ _ rfl rfl rfl (row_new w _ _) ?_))
  exact bodyPost_ret (v := .tuple #[.agg (ev e), .nilIface]) (results_e2 (fn := Tryz.f72) (p := 4) (u := 5) rfl rfl ((row_new w _ _).put (ev e))) rfl ⟨rfl, below_row hB (by omega) _⟩
end Go.Proofs.YtdihbgmjnfpppaaGreatDoor
