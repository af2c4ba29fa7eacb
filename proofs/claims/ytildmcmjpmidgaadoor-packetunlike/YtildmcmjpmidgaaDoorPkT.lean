
/-
  cut: a message with no more acts than are played.
-/
import Derived.Test.YtildmcmjpmidgaaDoorPkO
namespace Go.Proofs.YtildmcmjpmidgaaDoor
open Go.RowKit
set_option maxRecDepth 100000

def cutM (m : Pms) : Pms := (m.1, m.2.1, m.2.2.1, m.2.2.2.1, m.2.2.2.2.1.take 60, m.2.2.2.2.2)
theorem cutM_sh {m : Pms} (h : shM m) : shM (cutM m) := ⟨h.1, fun a ha => h.2.1 a (List.mem_of_mem_take ha), h.2.2⟩
theorem cutM_fit {m : Pms} (h : shM m) (ha : ∀ a ∈ m.2.2.2.2.1, fitA a) : fitM (cutM m) := ⟨cutM_sh h, fun a hm => ha a (List.mem_of_mem_take hm), by simp only [cutM, List.length_take]; omega⟩
theorem cutM_bnd {m : Pms} (h : bndM m) : bndM (cutM m) := ⟨h.e, fun a ha => h.a a (List.mem_of_mem_take ha), h.r⟩
theorem mv_cut (m : Pms) (s : Value) : mv (cutM m) s = mv m s := rfl
theorem results_m1 {fn : Func} {p : Tmp} {tmps : Array Value} {w : World} {g : Nat} {m : Pms} {s : Value} (h : fn.results = #[.cell p 30]) (hp : tmps.getD p undef = .pointer (some ⟨g, 0, none⟩)) (hg : RowAt g (mv m s) 30 w) (hs : shM m) :
    (results fn tmps).run Tryd.prog w = .ok (.agg (mv m s)) w := by
  have hp' : tmps[p]?.getD undef = .pointer (some ⟨g, 0, none⟩) := by simpa using hp
  simp [results, h, hp', asAddr, run_loadVar_row w g _ _ _ _ _ hg Tryd.underlying30 rfl (mv_size hs)]
theorem SlA.take {w : World} {a : Option Addr} {c : Nat} {l : List Pac} (h : SlA w (.slice a l.length c) l) {k : Nat} (hk : k ≤ l.length) : SlA w (.slice a k c) (l.take k) := by
  have hl : (l.take k).length = k := by simp; omega
  rcases h with ⟨rfl, _⟩ | ⟨g, o, c', he, hg, hA⟩
  · obtain rfl : k = 0 := by simpa using hk
    exact .inl ⟨by simp, _, _, rfl⟩
  · simp only [Value.slice.injEq, true_and] at he
    obtain ⟨rfl, rfl⟩ := he
    refine .inr ⟨g, o, c, by rw [hl], hg, fun i x hx => hA i x ?_⟩
    rw [List.getElem?_take] at hx
    split at hx
    · exact hx
    · cases hx

set_option maxHeartbeats 2000000 in
theorem cut9_any (m : Pms) (s : Value) (w : World) (hs : shM m) (hA : SlA w s m.2.2.2.2.1) (hc : ∀ a n c, s = .slice a n c → n ≤ c) :
    Calls Tryd.prog 7 #[.agg (mv m s)] w fun e w' => ∃ s', e = .returned (.agg (mv (cutM m) s')) ∧ (∀ x, SlA x s m.2.2.2.2.1 → SlA x s' (cutM m).2.2.2.2.1) ∧ Below w.heap.size w w' := by
  have hz : (Tryd.prog.info? 30).bind (·.zero) = some (.agg (mv zeroM (.slice none 0 0))) := zero_ms
  obtain ⟨h1, h2, hB⟩ := two_boxes w (mv m s) (mv zeroM (.slice none 0 0)) 30 30
  obtain ⟨a, c, rfl⟩ := hA.form
  have hcap := hc _ _ _ rfl
  go_enter Tryd.func7, Tryd.ntmps7
  go_upto_region 1 with (refine wpL_alloc rfl _ rfl hz ?_; go_simp)
  generalize (w.alloc (.cells (mv m (.slice a m.2.2.2.2.1.length c)) 30)).alloc (.cells (mv zeroM (.slice none 0 0)) 30) = w1 at *
  have d1 : w1.cell? ⟨w.heap.size, 11, none⟩ = some (.slice a m.2.2.2.2.1.length c) := by rw [h1.cell]; exact mv_a _ hs
  have f1 := frozenW_of h1 11
  by_cases hl : (60 : Int) < (m.2.2.2.2.1.length : Int)
  · have HA := hid_of' (show ∀ x, SlA x (.slice a m.2.2.2.2.1.length c) m.2.2.2.2.1 → SlA x (.slice a 60 c) (cutM m).2.2.2.2.1 from fun x hx => hx.take (k := 60) (by omega))
    have hcc : (60 : Int) ≤ (c : Int) := by omega
    have hc0 : ¬ c = 0 := by omega
    have HH := hid_of' (And.intro h1 (And.intro h2 hB))
    clear hA hc hcap h1 h2 hB
    go_upto_region 3 with fail
    have g1 : RowAt w.heap.size (mv m (.slice a 60 c)) 30 (w1.setCell ⟨w.heap.size, 11, none⟩ (.slice a 60 c)) := by
      have := heap_setCell_at HH.out.1 11 (.slice a 60 c)
      rwa [mv_setA hs] at this
    have k1 : Kept [w.heap.size] w1 (w1.setCell ⟨w.heap.size, 11, none⟩ (.slice a 60 c)) := (Kept.refl _ _).set (p := ⟨w.heap.size, 11, none⟩) (.inl (by simp)) _
    have g2 := HH.out.2.1.kept k1 (by simp)
    have gB := below_kept1 HH.out.2.2 k1 (Nat.le_refl _) HH.out.2.2.size
    clear k1 HH d1 f1 hz
    generalize w1.setCell ⟨w.heap.size, 11, none⟩ (.slice a 60 c) = w2 at *
    go_wp2_with (first | (refine ld_ms hs rfl _ rfl rfl g1.in ?_) | (refine wpList_store_row rfl _ _ _ rfl _ _ rfl rfl _ _ g2 (mv_size hs) (by rw [mv_sz hs, mv_sz zeroM_sh]) (mv_one _ rfl) ?_))
    refine bodyPost_ret (results_m1 (fn := Tryd.f7) (p := 2) (m := m) rfl rfl (setRow_heap _ _ _ _ _ _ g2) hs) rfl ?_
    exact ⟨_, by rw [mv_cut], HA.out, below_setRow gB (Nat.le_succ _) _⟩
  · have HA : Hid (∀ x, SlA x (.slice a m.2.2.2.2.1.length c) m.2.2.2.2.1 → SlA x (.slice a m.2.2.2.2.1.length c) (m.2.2.2.2.1.take 60)) := by
      rw [List.take_of_length_le (by omega)]; exact fun _ h => h
    have g1 := h1
    have g2 := h2
    have gB := hB
    clear hA hc hcap h1 h2 hB
    go_upto_region 3 with fail
    clear d1 f1 hz
    go_wp2_with (first | (refine ld_ms hs rfl _ rfl rfl g1.in ?_) | (refine wpList_store_row rfl _ _ _ rfl _ _ rfl rfl _ _ g2 (mv_size hs) (by rw [mv_sz hs, mv_sz zeroM_sh]) (mv_one _ rfl) ?_))
    refine bodyPost_ret (results_m1 (fn := Tryd.f7) (p := 2) (m := m) rfl rfl (setRow_heap _ _ _ _ _ _ g2) hs) rfl ?_
    exact ⟨_, by rw [mv_cut], HA.out, below_setRow gB (Nat.le_succ _) _⟩
end Go.Proofs.YtildmcmjpmidgaaDoor
