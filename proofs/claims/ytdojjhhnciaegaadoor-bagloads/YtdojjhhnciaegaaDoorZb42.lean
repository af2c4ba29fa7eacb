
/-
  barrowkeep.SpoilBytes. barrowkeep.LendBytes. Load of a wrong limit, and of too many.
-/
import Derived.Test.YtdojjhhnciaegaaDoorZb41
import Derived.Test.YtdojjhhnciaegaaDoorZb29
namespace Go.Proofs.YtdojjhhnciaegaaDoor
open Go.RowKit Go.Extern.Stop Go.Stop Go.Extern
set_option maxRecDepth 100000

theorem rw_set1 {e n c g : Nat} {xs : List Value} {w : World} (h : Rw e 1 (.slice (some ⟨g, 0, none⟩) n c) n xs w) (i : Nat) (x : Value) : Rw e 1 (.slice (some ⟨g, 0, none⟩) n c) n (xs.set i x) (w.setCell ⟨g, i, none⟩ x) := by
  refine ⟨by rw [List.length_set]; exact h.1, ?_⟩
  rcases h.2 with ⟨q, _⟩ | ⟨g', cap, cur, q, hg, h1, h2, h3, h4⟩
  · cases q
  · cases q
    refine .inr ⟨g, c, cur.setIfInBounds i x, rfl, RowAt.setc hg _ _, h1, h2, by simpa using h3, ?_⟩
    rw [Array.toList_setIfInBounds, List.take_set, h4]
theorem rw_at1 {e n c g : Nat} {xs : List Value} {w : World} (h : Rw e 1 (.slice (some ⟨g, 0, none⟩) n c) n xs w) {i : Nat} {u : Value} (hu : xs[i]? = some u) : w.cell? ⟨g, i, none⟩ = some u ∧ w.frozen? ⟨g, i, none⟩ = false := by
  have h0 := h.cells _ _ hu
  rw [Nat.zero_add] at h0
  rcases h.2 with ⟨q, _⟩ | ⟨g', cap, cur, q, hg, _⟩
  · cases q
  · cases q
    exact ⟨h0, Lib.frozen_of_heap hg _⟩
/-- A row of bytes, whatever they are. -/
def u8s (xs : List Value) : Prop := ∀ u ∈ xs, ∃ z : Int, u = .int .u8 z
theorem u8s.set {xs : List Value} (h : u8s xs) (i : Nat) (z : Int) : u8s (xs.set i (.int .u8 z)) := fun u hu => by
  rcases List.mem_or_eq_of_mem_set hu with q | q
  · exact h u q
  · exact ⟨z, q⟩
theorem so_b (w : World) (x : Int) : So 1 (.slice (some ⟨w.heap.size, 0, none⟩) 1 1) 1 [.int .u8 x] (w.alloc (.cells #[.int .u8 x] 5)) :=
  ⟨rfl, .inr ⟨_, _, rfl, fun j u hj => by
    match j, hj with
    | 0, hj =>
      cases hj
      rw [Addr.add_lit]
      exact (row_new w #[.int .u8 x] 5).cellIs 0 rfl
    | j + 1, hj => simp at hj⟩⟩
theorem infoB : (Tryd.prog.info? 5).map (fun i => (i.zero, i.size, i.bytes)) = some (some (.int .u8 0), 1, 1) := by kernel_rfl
set_option maxHeartbeats 4000000 in
theorem spoilBytes_is {w : World} {v : Value} {n : Nat} {xs : List Value} (h : Rw 5 1 v n xs w) (hx : u8s xs) (hn : n ≤ 140737488351232) :
    Calls Tryd.prog 65 #[v] w fun e w' => (∃ z, e = .returned z) ∧ Ch (fun k => v.ownBlock = some k) w w' := by
  obtain ⟨i0, hi0, hz0, hz1, hz2⟩ := info_parts infoB
  have HI := hid_of' (And.intro hi0 (And.intro hz0 (And.intro hz1 hz2)))
  obtain ⟨a, c, rfl, _, _⟩ := h.form
  have H := hid_of' h
  clear h hi0 hz0 hz1 hz2
  go_enter Tryd.func65, Tryd.ntmps65
  go_wp2
  go_loopw [2] (fun kv wr => ∃ (k : Nat) (ys : List Value), kv = .int .i64 (k : Int) ∧ k ≤ n ∧ Rw 5 1 (.slice a n c) n ys wr ∧ u8s ys ∧ Ch (fun k => Value.ownBlock (.slice a n c) = some k) w wr) (fun kv _ => n - (intOf kv).toNat)
  case atStart => exact ⟨0, xs, rfl, by omega, H.out, hx, Ch.refl _ _⟩
  case round =>
    obtain ⟨k, ys, rfl, hk, hR, hu, hC⟩ := hrel
    by_cases hkl : k < n
    · have hki : (k : Int) < (n : Int) := by omega
      obtain ⟨G, rfl⟩ := hR.some (by omega)
      have hyl : ys.length = n := by have := hR.1; omega
      obtain ⟨y, hy⟩ : ∃ y, ys[k]? = some y := ⟨_, List.getElem?_eq_getElem (by omega)⟩
      obtain ⟨z, rfl⟩ := hu y (List.mem_of_getElem? hy)
      have hat := rw_at1 hR hy
      have m1 := hat.1
      have m2 := hat.2
      have HX := hid_of' (And.intro hR (And.intro hu hC))
      clear hR hC hat hy hyl hu
      go_wp2
      go_roundw
      case rel => exact ⟨k + 1, ys.set k _, by go_num, by omega, rw_set1 HX.out.1 k _, HX.out.2.1.set k _, Ch.set (p := ⟨G, k, none⟩) HX.out.2.2 (.inl rfl) _⟩
      case measure => simp [intOf]; omega
    · have hki : ¬ (k : Int) < (n : Int) := by omega
      have HX := hid_of' (And.intro hR hC)
      clear hR hC
      go_wp2
      go_loopw [0, 3] (fun v9 jv wq => ∃ (j m : Nat) (zs : List Value), jv = .int .i64 (j : Int) ∧ j ≤ 40 ∧ m ≤ n + j ∧ Rw 5 1 v9 m zs wq ∧ At' w (.slice a n c) v9 ∧ Ch (fun k => Value.ownBlock (.slice a n c) = some k) w wq) (fun _ jv _ => 40 - (intOf jv).toNat)
      case atStart => exact ⟨0, n, ys, rfl, by omega, by omega, HX.out.1, At'.refl _ _, HX.out.2⟩
      case round =>
        obtain ⟨j, m, zs, rfl, hj, hm, hR, hA, hC⟩ := hrel
        obtain ⟨za, zc, hv9, _, _⟩ := hR.form
        subst hv9
        by_cases hj4 : j < 40
        · have hji : (j : Int) < 40 := by omega
          have HS := hid_of' (And.intro (hR.later (below_one _ (.cells #[.int .u8 85] 5))) (so_b wr 85))
          have HY := hid_of' (And.intro hA hC)
          clear hR hA hC
          go_upto_region 6 with (at_builtin; refine wpL_app (P := Tryd.prog) rfl _ _ 41 rfl 5 i0 _ 1 1 Tryd.underlying41 HI.out.1 HI.out.2.1 HI.out.2.2.1 HI.out.2.2.2 rfl rfl rfl HS.out.1 HS.out.2 (fun y hy => by rw [List.mem_singleton] at hy; subst hy; rfl) (by unfold maxLen; omega) (by omega) ?_; intro u6 w6 q1 q2 q3)
          have hs := HY.out.2.size
          have hC6 := (HY.out.2.later (below_one _ (.cells #[.int .u8 85] 5))).grown q2 (fun k hk => HY.out.1 k hk)
          have hA6 : At' w (.slice a n c) u6 := fun k hk => (q3 k hk).elim (fun q => HY.out.1 k q) (fun q => .inr (by rw [World.size_alloc] at q; omega))
          have HZ := hid_of' (And.intro q1 (And.intro hA6 hC6))
          clear q1 q2 q3 hC6 hA6
          go_wp2
          go_roundw
          case rel => exact ⟨j + 1, m + 1, _, by go_num, by omega, by omega, HZ.out.1, HZ.out.2.1, HZ.out.2.2⟩
          case measure => simp [intOf]; omega
        · have hji : ¬ (j : Int) < 40 := by omega
          have HY := hid_of' hC
          clear hR hA hC
          go_wp2
          go_end0
          exact ⟨⟨_, rfl⟩, HY.out⟩
end Go.Proofs.YtdojjhhnciaegaaDoor
namespace Go.Proofs.YtdojjhhnciaegaaDoor
open Go.RowKit Go.Extern.Stop Go.Stop Go.Extern
set_option maxRecDepth 100000

/-- The marks behind a lent row. -/
def mk4 : List Value := [.int .u8 201, .int .u8 202, .int .u8 203, .int .u8 204]
theorem so_4 (w : World) : So 1 (.slice (some ⟨w.heap.size, 0, none⟩) 4 4) 4 mk4 (w.alloc (.cells #[.int .u8 201, .int .u8 202, .int .u8 203, .int .u8 204] 5)) :=
  ⟨rfl, .inr ⟨_, _, rfl, fun j u hu => by
    rw [Addr.add_lit, Nat.zero_add, (row_new w _ _).cell]
    simpa [mk4] using hu⟩⟩
set_option maxHeartbeats 2000000 in
theorem lend_is {w : World} {v : Value} {bs : List UInt8} (h : SlB w v bs) (hl : bs.length ≤ 1000) :
    Calls Tryd.prog 25 #[v] w fun e w' => ∃ G c, e = .returned (.slice (some ⟨G, 0, none⟩) bs.length c) ∧ Rw 5 1 (.slice (some ⟨G, 0, none⟩) (bs.length + 4) c) (bs.length + 4) (Lib.byteCells bs ++ mk4) w' ∧ w.heap.size ≤ G ∧ Below w.heap.size w w' := by
  obtain ⟨i0, hi0, hz0, hz1, hz2⟩ := info_parts infoB
  have HI := hid_of' (And.intro hi0 (And.intro hz0 (And.intro hz1 hz2)))
  have HS := hid_of' (h.later (below_one w (.cells #[] 5)))
  clear hi0 hz0 hz1 hz2
  obtain ⟨a, c, rfl⟩ := h.form
  clear h
  go_enter Tryd.func25, Tryd.ntmps25
  go_upto_region 2 with (first | (at_builtin; refine wpL_app0 (P := Tryd.prog) rfl _ _ 41 rfl 5 i0 _ 1 1 Tryd.underlying41 HI.out.1 HI.out.2.1 HI.out.2.2.1 HI.out.2.2.2 rfl rfl rfl (row_new w _ _) HS.out.so (byteCells_one bs) (by unfold maxLen; omega) (by omega) ?_; intro v1 w1 h1 h2 h3; clear HS; have H1 := hid_of' (And.intro h1 (And.intro h2 h3)); clear h1 h2 h3; obtain ⟨va, vc, rfl, _, _⟩ := H1.out.1.form) | (at_builtin; refine wpL_app (P := Tryd.prog) rfl _ _ 41 rfl 5 i0 _ 1 1 Tryd.underlying41 HI.out.1 HI.out.2.1 HI.out.2.2.1 HI.out.2.2.2 rfl rfl rfl (H1.out.1.later (below_one _ _)) (so_4 w1) (fun y hy => by simp only [mk4, List.mem_cons, List.not_mem_nil, or_false] at hy; rcases hy with rfl | rfl | rfl | rfl <;> rfl) (by unfold maxLen; omega) (by omega) ?_; intro v2 w2 q1 q2 q3))
  obtain ⟨ua, uc, hu, hcu, _⟩ := q1.form
  subst hu
  obtain ⟨G, hG⟩ := q1.some (by omega)
  subst hG
  have gx := grown_ch q2
  have hb1 : Below w.heap.size w w1 := bgo (below_one w _) H1.out.2.1
  have hs1 := hb1.size
  have h13 := H1.out.2.2
  rw [World.size_alloc] at h13
  have hlo : w.heap.size ≤ G := by
    rcases q3 G rfl with q | q
    · have := h13 G q; omega
    · rw [World.size_alloc] at q; omega
  have hb2 : Below w.heap.size w w2 := by
    have hb := bgo hb1 (below_one w1 (.cells #[.int .u8 201, .int .u8 202, .int .u8 203, .int .u8 204] 5))
    exact hb.trans (gx.below (fun s hs e => by have := h13 s e; omega) hb.size)
  have HZ := hid_of' (And.intro q1 (And.intro hlo hb2))
  have k1 : (bs.length : Int) ≤ (uc : Int) := by omega
  clear q1 q2 q3 gx hb1 hlo hb2 h13
  go_wp2
  go_ret
  exact ⟨G, uc, rfl, HZ.out.1, HZ.out.2.1, HZ.out.2.2⟩
end Go.Proofs.YtdojjhhnciaegaaDoor
namespace Go.Proofs.YtdojjhhnciaegaaDoor
open Go.RowKit Go.Extern.Stop Go.Stop Go.Extern
set_option maxRecDepth 100000

theorem load_most {ad : Nat → Addr} (m : Int) (h : m < 0 ∨ 4096 < m) (w : World) (L : Lb ad w) (a : Option Addr) (n c : Nat) :
    Calls Tryd.prog 12 #[.int .i64 m, .slice a n c] w fun e w' => ∃ v, e = .returned (.tuple #[.pointer none, v]) ∧ ErrR ad w.heap.size (some (bLoad, m, 0)) v w' ∧ Below w.heap.size w w' := by
  have HM := hid_of' (isMost_no m h w)
  have HF := hid_of' (newF (ad := ad) bBag bLoad m 0 w)
  have LV : w.cell? ⟨0, 0, none⟩ = some (.iface 155 (.pointer (some (ad 0)))) := L 0 (by decide)
  clear h L
  go_enter Tryd.func12, Tryd.ntmps12
  go_wp2_with (first | (go_at_call 14; refine HM.out.mono ?_; rintro e w1 ⟨rfl, h0⟩; obtain rfl := h0.symm) | (go_at_call 15; refine HF.out.mono ?_; rintro r w1 ⟨rfl, hf, hb1⟩))
  go_ret2
  exact ⟨_, rfl, ⟨_, rfl, Nat.le_refl _, by decide, hf⟩, hb1⟩
theorem load_many {ad : Nat → Addr} (m : Int) (h0 : 0 ≤ m) (h1 : m ≤ 4096) (w : World) (L : Lb ad w) (a : Option Addr) (n c : Nat) (hn : m < (n : Int)) :
    Calls Tryd.prog 12 #[.int .i64 m, .slice a n c] w fun e w' => ∃ v, e = .returned (.tuple #[.pointer none, v]) ∧ ErrR ad w.heap.size (some (bLoad, (n : Int), 0)) v w' ∧ Below w.heap.size w w' := by
  have HM := hid_of' (isMost_yes m h0 h1 w)
  have HF := hid_of' (newF (ad := ad) bBag bLoad (n : Int) 0 w)
  have LV : w.cell? ⟨0, 0, none⟩ = some (.iface 155 (.pointer (some (ad 0)))) := L 0 (by decide)
  clear h0 h1 L
  go_enter Tryd.func12, Tryd.ntmps12
  go_wp2_with (first | (go_at_call 14; refine HM.out.mono ?_; rintro e w1 ⟨rfl, h0⟩; obtain rfl := h0.symm) | (go_at_call 15; refine HF.out.mono ?_; rintro r w1 ⟨rfl, hf, hb1⟩))
  go_ret2
  exact ⟨_, rfl, ⟨_, rfl, Nat.le_refl _, by decide, hf⟩, hb1⟩
set_option maxHeartbeats 2000000 in
theorem refLoad_most (m : Int) (h : m < 0 ∨ 4096 < m) (w : World) (a : Option Addr) (n c : Nat)  :
    Calls Tryd.prog 13 #[.int .i64 m, .slice a n c] w fun e w' => ∃ v, e = .returned (.tuple #[.pointer none, v]) ∧ NoR w.heap.size (some (bLoad, m, 0)) v w' ∧ Below w.heap.size w w' := by
  have rN := row_new w #[.int .i64 0, .slice none 0 0, .slice none 0 0] 32
  have hb1 := below_one w (.cells #[.int .i64 0, .slice none 0 0, .slice none 0 0] 32)
  have hs1 : (w.alloc (.cells #[.int .i64 0, .slice none 0 0, .slice none 0 0] 32)).heap.size = w.heap.size + 1 := World.size_alloc _ _
  have HS : Hid (∀ x, Calls Tryd.prog 16 #[.string bBag, .string bLoad, .int .i64 m, .int .i64 1] x fun e w' => ∃ v, e = .returned v ∧ NoR x.heap.size (some (bLoad, m, 0)) v w' ∧ Below x.heap.size x w') := fun x => say_is bLoad m 0 x
  go_enter Tryd.func13, Tryd.ntmps13
  go_upto_region 1 with fail
  generalize w.alloc (.cells #[.int .i64 0, .slice none 0 0, .slice none 0 0] 32) = w1 at rN hb1 hs1 ⊢
  have H := hid_of' (And.intro rN hb1)
  clear rN hb1
  have key : (m < 0 ∧ decide (m < 0) = true) ∨ (¬ m < 0 ∧ 4096 < m) := by
    rcases h with h | h
    · exact .inl ⟨h, decide_eq_true h⟩
    · exact .inr ⟨by omega, h⟩
  clear h
  rcases key with ⟨k1, k2⟩ | ⟨k1, k2⟩
  all_goals
    go_wp2_with (first | (go_at_call 16; refine (HS.out _).mono ?_; rintro e w2 ⟨u, rfl, ⟨g1, g2, rfl, h2, h3, h4, h5⟩, hb2⟩; have HN := hid_of' (And.intro h2 (And.intro h3 (And.intro h4 (And.intro h5 hb2)))); clear h2 h3 h4 h5 hb2) | (refine wpL_storeNo rfl _ _ rfl rfl (code := ((0 : Nat) : Int) + 1) (a := some ⟨g2, 0, none⟩) (n := 1) (c := 1) (a' := some ⟨g1, 0, none⟩) (n' := 1) (c' := 1) rfl (H.out.1.later HN.out.2.2.2.2) ?_))
    have hg1 := HN.out.1
    have hg2 := HN.out.2.1
    have cR := Ch.row (S := fun s => s = w.heap.size) (Ch.refl _ w2) (.inl rfl) (nov (((0 : Nat) : Int) + 1) (some ⟨g2, 0, none⟩) 1 1 (some ⟨g1, 0, none⟩) 1 1)
    exact bodyPost_ret (v := .tuple #[.pointer none, .agg (nov (((0 : Nat) : Int) + 1) (some ⟨g2, 0, none⟩) 1 1 (some ⟨g1, 0, none⟩) 1 1)]) (results_pn (fn := Tryd.f13) (p := 4) (q := 5) (g := w.heap.size) rfl rfl ((H.out.1.later HN.out.2.2.2.2).put _) rfl) rfl ⟨_, rfl, ⟨g1, g2, rfl, by omega, by omega, HN.out.2.2.1.ch cR (by omega), HN.out.2.2.2.1.ch cR (by omega)⟩, below_row (bgo H.out.2 HN.out.2.2.2.2) (Nat.le_refl _) _⟩
set_option maxHeartbeats 2000000 in
theorem refLoad_many (m : Int) (h0 : 0 ≤ m) (h1 : m ≤ 4096) (w : World) (a : Option Addr) (n c : Nat) (hn : m < (n : Int)) :
    Calls Tryd.prog 13 #[.int .i64 m, .slice a n c] w fun e w' => ∃ v, e = .returned (.tuple #[.pointer none, v]) ∧ NoR w.heap.size (some (bLoad, (n : Int), 0)) v w' ∧ Below w.heap.size w w' := by
  have rN := row_new w #[.int .i64 0, .slice none 0 0, .slice none 0 0] 32
  have hb1 := below_one w (.cells #[.int .i64 0, .slice none 0 0, .slice none 0 0] 32)
  have hs1 : (w.alloc (.cells #[.int .i64 0, .slice none 0 0, .slice none 0 0] 32)).heap.size = w.heap.size + 1 := World.size_alloc _ _
  have HS : Hid (∀ x, Calls Tryd.prog 16 #[.string bBag, .string bLoad, .int .i64 (n : Int), .int .i64 1] x fun e w' => ∃ v, e = .returned v ∧ NoR x.heap.size (some (bLoad, (n : Int), 0)) v w' ∧ Below x.heap.size x w') := fun x => say_is bLoad (n : Int) 0 x
  go_enter Tryd.func13, Tryd.ntmps13
  go_upto_region 1 with fail
  generalize w.alloc (.cells #[.int .i64 0, .slice none 0 0, .slice none 0 0] 32) = w1 at rN hb1 hs1 ⊢
  have H := hid_of' (And.intro rN hb1)
  clear rN hb1
  have k1 : ¬ m < 0 := by omega
  have k2 : ¬ 4096 < m := by omega
  all_goals
    go_wp2_with (first | (go_at_call 16; refine (HS.out _).mono ?_; rintro e w2 ⟨u, rfl, ⟨g1, g2, rfl, h2, h3, h4, h5⟩, hb2⟩; have HN := hid_of' (And.intro h2 (And.intro h3 (And.intro h4 (And.intro h5 hb2)))); clear h2 h3 h4 h5 hb2) | (refine wpL_storeNo rfl _ _ rfl rfl (code := ((0 : Nat) : Int) + 1) (a := some ⟨g2, 0, none⟩) (n := 1) (c := 1) (a' := some ⟨g1, 0, none⟩) (n' := 1) (c' := 1) rfl (H.out.1.later HN.out.2.2.2.2) ?_))
    have hg1 := HN.out.1
    have hg2 := HN.out.2.1
    have cR := Ch.row (S := fun s => s = w.heap.size) (Ch.refl _ w2) (.inl rfl) (nov (((0 : Nat) : Int) + 1) (some ⟨g2, 0, none⟩) 1 1 (some ⟨g1, 0, none⟩) 1 1)
    exact bodyPost_ret (v := .tuple #[.pointer none, .agg (nov (((0 : Nat) : Int) + 1) (some ⟨g2, 0, none⟩) 1 1 (some ⟨g1, 0, none⟩) 1 1)]) (results_pn (fn := Tryd.f13) (p := 4) (q := 5) (g := w.heap.size) rfl rfl ((H.out.1.later HN.out.2.2.2.2).put _) rfl) rfl ⟨_, rfl, ⟨g1, g2, rfl, by omega, by omega, HN.out.2.2.1.ch cR (by omega), HN.out.2.2.2.1.ch cR (by omega)⟩, below_row (bgo H.out.2 HN.out.2.2.2.2) (Nat.le_refl _) _⟩
end Go.Proofs.YtdojjhhnciaegaaDoor
