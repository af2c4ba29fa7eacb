
/-
  clock.Merge, clock.Meet and the document's.
-/
import Derived.Test.YtlgdaaofpjpobaaDoorZca07
namespace Go.Proofs.YtlgdaaofpjpobaaDoor
open Go.RowKit
set_option maxRecDepth 100000

/-- So far as index k a and b are joined by f. -/
def upTo (f : Int → Int → Int) (a b : List Int) (k : Nat) (x : List Int) : Prop := x.length = 8 ∧ ∀ j, j < 8 → en x j = if j < k then f (en a j) (en b j) else en a j
theorem upTo.zero {f : Int → Int → Int} {a b : List Int} (ha : a.length = 8) : upTo f a b 0 a := ⟨ha, fun j _ => by simp⟩
theorem upTo.at {f : Int → Int → Int} {a b : List Int} {k : Nat} {x : List Int} (h : upTo f a b k x) (hk : k < 8) : en x k = en a k := by rw [h.2 k hk, if_neg (by omega)]
theorem upTo.next {f : Int → Int → Int} {a b : List Int} {k : Nat} {x : List Int} (h : upTo f a b k x) (hk : k < 8) : upTo f a b (k + 1) (x.set k (f (en x k) (en b k))) := by
  refine ⟨by simpa using h.1, fun j hj => ?_⟩
  rw [getD_set _ _ _ _ (by rw [h.1]; exact hk)]
  by_cases e : j = k
  · subst e; rw [if_pos rfl, if_pos (by omega), h.at hk]
  · rw [if_neg e, h.2 j hj]
    by_cases e2 : j < k
    · rw [if_pos e2, if_pos (by omega)]
    · rw [if_neg e2, if_neg (by omega)]
theorem upTo.skip {f : Int → Int → Int} {a b : List Int} {k : Nat} {x : List Int} (h : upTo f a b k x) (hk : k < 8) (he : f (en x k) (en b k) = en x k) : upTo f a b (k + 1) x := by
  refine ⟨h.1, fun j hj => ?_⟩
  by_cases e : j = k
  · subst e; rw [if_pos (by omega), ← h.at hk, he]
  · rw [h.2 j hj]
    by_cases e2 : j < k
    · rw [if_pos e2, if_pos (by omega)]
    · rw [if_neg e2, if_neg (by omega)]
theorem upTo.mrg {a b x : List Int} (h : upTo mx a b 8 x) (ha : a.length = 8) (hb : b.length = 8) : x = mrg a b :=
  ck_ext h.1 (mrg_len ha hb) fun k hk => by rw [h.2 k hk, if_pos hk, mrg_get ha hb hk]
theorem upTo.mee {a b x : List Int} (h : upTo mn a b 8 x) (ha : a.length = 8) (hb : b.length = 8) : x = mee a b :=
  ck_ext h.1 (mee_len ha hb) fun k hk => by rw [h.2 k hk, if_pos hk, mee_get ha hb hk]


/-- The world behind the boxes of two clocks and a zero one. -/
theorem start3 (w : World) {a b : List Int} (ha : a.length = 8) (hb : b.length = 8) :
    CkAt w.heap.size a (((w.alloc (.cells (cv a) 44)).alloc (.cells (cv b) 44)).alloc (.cells (cv ck0) 44)) ∧ CkAt (w.heap.size + 1) b (((w.alloc (.cells (cv a) 44)).alloc (.cells (cv b) 44)).alloc (.cells (cv ck0) 44)) ∧ CkAt (w.heap.size + 2) ck0 (((w.alloc (.cells (cv a) 44)).alloc (.cells (cv b) 44)).alloc (.cells (cv ck0) 44)) ∧ Below w.heap.size w (((w.alloc (.cells (cv a) 44)).alloc (.cells (cv b) 44)).alloc (.cells (cv ck0) 44)) := by
  have h1 := CkAt.new (w.alloc (.cells (cv a) 44)) hb
  have h2 := CkAt.new ((w.alloc (.cells (cv a) 44)).alloc (.cells (cv b) 44)) (x := ck0) rfl
  simp only [World.size_alloc] at h1 h2
  exact ⟨((CkAt.new w ha).alloc _).alloc _, h1.alloc _, h2, bgo (bgo (below_one w _) (below_one _ _)) (below_one _ _)⟩

set_option maxHeartbeats 1000000 in
theorem merge_any (a b : List Int) (w : World) (ha : a.length = 8) (hb : b.length = 8) :
    Calls Tryd.prog 58 #[.agg (cv a), .agg (cv b)] w fun e w' => e = .returned (.agg (cv (mrg a b))) ∧ Below w.heap.size w w' := by
  go_enter Tryd.func58, Tryd.ntmps58
  go_wp2
  go_loopw [5, 6] (fun _ i wr => ∃ (k : Nat) (x : List Int), i = .int .i64 (k : Int) ∧ k ≤ 8 ∧ upTo mx a b k x ∧ CkAt w.heap.size x wr ∧ CkAt (w.heap.size + 1) b wr ∧ CkAt (w.heap.size + 2) ck0 wr ∧ Below w.heap.size w wr) (fun _ i _ => 8 - (intOf i).toNat)
  case atStart =>
    exact ⟨0, a, rfl, by omega, upTo.zero ha, start3 w ha hb⟩
  case round =>
    obtain ⟨k, x, rfl, hk, hu, h1, h2, h3, hbl⟩ := hrel
    by_cases hlt : k < 8
    · have hki : (k : Int) < 8 := by omega
      have c1 := h1.cell hlt
      have c2 := h2.cell hlt
      have f1 := h1.frozen k
      go_wp2
      go_region
      all_goals
        go_wp2
        go_roundw
        case rel => exact ⟨k + 1, _, by go_num, by omega, hu.next hlt, (h1.set k _).drew, (h2.other ⟨w.heap.size, k, none⟩ _ (by simp)).drew, (h3.other ⟨w.heap.size, k, none⟩ _ (by simp)).drew, (hbl.setCell (by simp) _).drew⟩
        case measure => simp [intOf]; omega
    · have hki : ¬ (k : Int) < 8 := by omega
      obtain rfl : k = 8 := by omega
      obtain rfl := hu.mrg ha hb
      go_wp2_with (first | (refine wpL_load rfl _ rfl rfl h1 ?_) | (refine wpL_store rfl _ _ rfl rfl rfl h3 h1.2 ?_))
      exact bodyPost_ret (v := .agg (cv (mrg a b))) (results_cell_row rfl _ _ (w.heap.size + 2) _ _ _ _ rfl (h3.row h1.2).1 Tryd.underlying44 rfl h1.size) rfl ⟨rfl, below_row hbl (by omega) _⟩

end Go.Proofs.YtlgdaaofpjpobaaDoor
