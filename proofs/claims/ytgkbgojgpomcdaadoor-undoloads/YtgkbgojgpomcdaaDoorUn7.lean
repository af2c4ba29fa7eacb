
/-
  undo.withNewest, moveNewest; a Stack in memory.
-/
import Derived.Test.YtgkbgojgpomcdaaDoorUn6
namespace Go.Proofs.YtgkbgojgpomcdaaDoor
open Go.RowKit Go.Extern.Stop Go.Stop Go.Extern
set_option maxRecDepth 100000

/-- One more; of too many the oldest goes. -/
def nwL {α : Type} (us : List α) (u : α) : List α := (us ++ [u]).drop (us.length + 1 - 64)
theorem nwL_len {α : Type} (us : List α) (u : α) (h : us.length ≤ 64) : (nwL us u).length ≤ 64 := by
  unfold nwL
  rw [List.length_drop, List.length_append]
  simp only [List.length_cons, List.length_nil]
  omega
theorem EsAt.nw {K : Nat → Prop} {us : List Value} {ls : List (List Xg)} {w : World} {u : Value} {l : List Xg} (h : EsAt K us ls w) (hu : EdAt K u l w) : EsAt K (nwL us u) (nwL ls l) w := by
  unfold nwL
  rw [h.1]
  exact (h.app (EsAt.one hu)).drop _
set_option maxHeartbeats 2000000 in
theorem withNewest_ok {w : World} {v x u : Value} {us : List Value} (h : OwnV v us w) (hx : So 1 x 1 [u] w) (hu : ∃ a n c, u = .slice a n c) (hl : us.length ≤ 64) :
    Calls Tryd.prog 51 #[v, x] w fun e w' => ∃ v', e = .returned v' ∧ OwnV v' (nwL us u) w' ∧ w.grownBy w' v.ownBlock ∧ At' w v v' := by
  obtain ⟨a, c, rfl⟩ := h.form
  have H := hid_of' (And.intro h (And.intro hx hu))
  obtain ⟨n, hn⟩ : ∃ n, n = us.length := ⟨_, rfl⟩
  rw [← hn] at H hl ⊢
  replace hn := hid_of' hn
  clear h hx
  go_enter Tryd.func51, Tryd.ntmps51
  go_upto_region 2 with (at_builtin; refine wpL_appE (m := [u]) rfl _ _ rfl rfl rfl H.out.1 H.out.2.1 (fun y hy => by rw [List.mem_singleton] at hy; subst hy; exact H.out.2.2) (by have := hn.out; omega) ?_; intro v6 w6 q1 q2 q3)
  obtain ⟨a6, c6, hv6⟩ := q1.form
  have hlen : (us ++ [u]).length = n + 1 := by rw [List.length_append, ← hn.out]; rfl
  rw [hlen] at hv6
  subst hv6
  have HQ := hid_of' (And.intro q1 (And.intro q2 (And.intro q3 hlen)))
  obtain ⟨N, hN⟩ : ∃ N, N = n + 1 := ⟨_, rfl⟩
  rw [← hN] at HQ ⊢
  by_cases hc : n < 64
  · have HD := hid_of' (delE_no q1)
    rw [← hN] at HD
    have e1 : wrap64 ((N : Int) - 64) = (N : Int) - 64 := wrapIs (by omega) (by omega)
    have e2 : max 0 ((N : Int) - 64) = 0 := by omega
    replace hN := hid_of' hN
    clear q1 q2 q3 hlen
    go_wp2_with (go_at_call 62; refine HD.out.mono ?_; rintro e w7 ⟨rfl, h0⟩; obtain rfl := h0.symm)
    go_ret
    refine ⟨_, rfl, ?_, HQ.out.2.1, HQ.out.2.2.1⟩
    unfold nwL
    rw [← hn.out, show n + 1 - 64 = 0 by omega, List.drop_zero]
    exact HQ.out.1
  · have hd := delE_ok (i := 0) q1 (by omega) (by omega)
    rw [show ((0 : Nat) : Int) = 0 from rfl, show (0 : Int) + 1 = 1 from rfl, hlen, ← hN] at hd
    have HD := hid_of' hd
    obtain rfl : N = 65 := by omega
    clear q1 q2 q3 hlen hd hN
    go_wp2_with (go_at_call 62; refine HD.out.mono ?_; rintro e w7 ⟨g7, c7, e7, rfl, q7, q8⟩; have H7 := hid_of' (And.intro e7 (And.intro q7 q8)); clear e7 q7 q8)
    go_ret
    obtain ⟨q1, q2, q3, hlen⟩ := HQ.out
    obtain ⟨e7, q7, q8⟩ := H7.out
    simp only [Value.slice.injEq] at e7
    obtain ⟨rfl, _, rfl⟩ := e7
    refine ⟨_, rfl, ?_, ?_, ?_⟩
    · unfold nwL
      rw [← hn.out, show n + 1 - 64 = 1 by have := hn.out; omega]
      rw [List.take_zero, List.nil_append] at q7
      exact q7
    · exact ⟨q8.os.trans q2.os, q8.tape.trans q2.tape, q8.output.trans q2.output, Nat.le_trans q2.size q8.size, fun k hk q => (q8.block k (Nat.lt_of_lt_of_le hk q2.size) (fun e => by
        rcases q3 k e.symm with r | r
        · exact q r.symm
        · omega)).trans (q2.block k hk q)⟩
    · exact q3
set_option maxHeartbeats 2000000 in
theorem moveNewest_ok {w : World} {g cap n : Nat} {vb u : Value} {us ub : List Value} (h : OwnV (.slice (some ⟨g, 0, none⟩) (n + 1) cap) us w) (hn : us.length = n + 1) (hu : us[n]? = some u) (hb : OwnV vb ub w) (hln : n ≤ 64) (hlb : ub.length ≤ 64) (hap : ¬ vb.ownBlock = some g) :
    Calls Tryd.prog 50 #[.slice (some ⟨g, 0, none⟩) (n + 1) cap, vb] w fun e w' => ∃ vm, e = .returned (.tuple #[.slice (some ⟨g, 0, none⟩) n cap, vm]) ∧ OwnV (.slice (some ⟨g, 0, none⟩) n cap) (us.take n) w' ∧ OwnV vm (nwL ub u) w' ∧ At' w vb vm ∧ Ch (fun k => k = g ∨ vb.ownBlock = some k) w w' := by
  obtain ⟨g', c', e0, hc, _⟩ := h.at hu
  simp only [Value.slice.injEq, Option.some.injEq, Addr.mk.injEq] at e0
  obtain ⟨⟨rfl, _⟩, e9, rfl⟩ := e0
  clear e9
  have hone := h.2 u (List.mem_of_getElem? hu)
  obtain ⟨ab, cb, rfl⟩ := hb.form
  obtain ⟨ua, un, uc, rfl⟩ := hone
  have HW := hid_of' (withNewest_ok (hb.later (below_one w (.cells #[.slice ua un uc] 33))) (so_e w (.slice ua un uc)) ⟨ua, un, uc, rfl⟩ hlb)
  have H := hid_of' (And.intro h (And.intro hn (And.intro hb hap)))
  have kn : (n : Int) < (n : Int) + 1 := by omega
  have e1 : wrap64 ((n : Int) + 1 - 1) = (n : Int) := by rw [show (n : Int) + 1 - 1 = (n : Int) by omega]; exact wrapIs (by omega) (by omega)
  have e2 : wrap64 ((n : Int) + 1) = (n : Int) + 1 := wrapIs (by omega) (by omega)
  have e3 : wrap64 (n : Int) = (n : Int) := wrapIs (by omega) (by omega)
  obtain ⟨nb, hnb⟩ : ∃ nb, nb = ub.length := ⟨_, rfl⟩
  rw [← hnb] at HW H hlb ⊢
  clear hnb h hn hb hap
  go_enter Tryd.func50, Tryd.ntmps50
  go_upto_region 3 with (go_at_call 51; (with_reducible refine HW.out.mono ?_); rintro e w1 ⟨v1, rfl, q1, q2, q3⟩; clear HW; obtain ⟨a1, c1, hv1⟩ := q1.form; generalize List.length _ = n1 at hv1; subst hv1)
  obtain ⟨h, hn, hb, hap⟩ := H.out
  have hB := below_one w (.cells #[.slice ua un uc] 33)
  have hgl : g < w.heap.size := h.1.lt g rfl
  have hC1 : Ch (fun k => Value.ownBlock (.slice ab nb cb) = some k) w w1 := ((Ch.of hB).grown q2 (fun k hk => .inl hk))
  have hd := delE_ok (i := n) (h.ch hC1 (fun k hk => by cases hk; exact hap)) (by omega) (by omega)
  rw [hn, Nat.add_sub_cancel] at hd
  have HD := hid_of' hd
  have HQ := hid_of' (And.intro q1 (And.intro q3 (And.intro hC1 (And.intro hap (And.intro hgl hn)))))
  clear h hn hb hap hB hgl hC1 hd q1 q2 q3 H hc
  go_wp2_with (go_at_call 62; (with_reducible refine HD.out.mono ?_); rintro e w7 ⟨g7, c7, e7, rfl, q7, q8⟩; have H7 := hid_of' (And.intro e7 (And.intro q7 q8)); clear e7 q7 q8)
  go_ret2
  obtain ⟨q1, q3, hC1, hap, hgl, hn⟩ := HQ.out
  obtain ⟨e7, q7, q8⟩ := H7.out
  simp only [Value.slice.injEq, Option.some.injEq, Addr.mk.injEq, true_and, and_true] at e7
  obtain ⟨rfl, rfl⟩ := e7
  have hc2 := grown_ch q8
  refine ⟨_, rfl, ?_, ?_, ?_, ?_⟩
  · rw [List.drop_of_length_le (by omega), List.append_nil] at q7
    exact q7
  · exact q1.ch hc2 (fun k hk e => by
      cases e
      rcases q3 g hk with q | q
      · exact hap q
      · rw [World.size_alloc] at q; omega)
  · exact fun k hk => (q3 k hk).imp id (fun q => by rw [World.size_alloc] at q; omega)
  · exact (hC1.mono (fun s q => .inl (.inr q))).trans (hc2.mono (fun s q => .inl (.inl (by cases q; rfl))))
end Go.Proofs.YtgkbgojgpomcdaaDoor
