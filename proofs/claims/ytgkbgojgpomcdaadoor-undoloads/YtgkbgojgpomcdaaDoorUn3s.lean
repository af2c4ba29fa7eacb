
/-
  barrowkeep.SpoilChanges.
-/
import Derived.Test.YtgkbgojgpomcdaaDoorUn3
namespace Go.Proofs.YtgkbgojgpomcdaaDoor
open Go.RowKit Go.Extern.Stop Go.Stop Go.Extern
set_option maxRecDepth 100000

set_option maxHeartbeats 4000000 in
theorem spoil_is {w : World} {v : Value} {l : List Xg} (h : RwX v l w) (hl : l.length ≤ 4398046510976) :
    Calls Tryd.prog 23 #[v] w fun e w' => (∃ z, e = .returned z) ∧ Ch (fun k => v.ownBlock = some k) w w' := by
  obtain ⟨a, c, rfl, _, _⟩ := Rw.form h
  have H := hid_of' h
  obtain ⟨n, hn⟩ : ∃ n, n = l.length := ⟨_, rfl⟩
  unfold RwX at H
  rw [← hn] at H hl ⊢
  clear h hn
  go_enter Tryd.func23, Tryd.ntmps23
  go_wp2
  go_loopw [2] (fun kv wr => ∃ (k : Nat) (ys : List Xg), kv = .int .i64 (k : Int) ∧ k ≤ n ∧ Rw 66 4 (.slice a n c) n (xcells ys) wr ∧ Ch (fun k => Value.ownBlock (.slice a n c) = some k) w wr) (fun kv _ => n - (intOf kv).toNat)
  case atStart => exact ⟨0, l, rfl, by omega, H.out, Ch.refl _ _⟩
  case round =>
    obtain ⟨k, ys, rfl, hk, hR, hC⟩ := hrel
    by_cases hkl : k < n
    · have hki : (k : Int) < (n : Int) := by omega
      obtain ⟨G, rfl⟩ := Rw.some0 hR (by omega)
      have HX := hid_of' (And.intro hR hC)
      have hyl : ys.length = n := by have := hR.1; rw [xcells_len] at this; omega
      obtain ⟨y, hy⟩ : ∃ y, ys[k]? = some y := ⟨_, List.getElem?_eq_getElem (by omega)⟩
      have hcs : ∀ j v, (xgv y)[j]? = some v → wr.cell? ⟨G, k * 4 + j, none⟩ = some v := fun j v hv => by
        have := hR.cells _ _ (xcells_at ys k y hy j v hv)
        rwa [Nat.zero_add] at this
      have ht := RwX.there hR hkl
      have m0 : wr.cell? ⟨G, k * 4, none⟩ = some (.int .i64 y.k) := hcs 0 _ rfl
      have m1 : wr.cell? ⟨G, k * 4 + 1, none⟩ = some (.int .i64 y.a) := hcs 1 _ rfl
      have m2 : wr.cell? ⟨G, k * 4 + 2, none⟩ = some (.int .i64 y.b) := hcs 2 _ rfl
      have m3 : wr.cell? ⟨G, k * 4 + 3, none⟩ = some (.int .i64 y.c) := hcs 3 _ rfl
      have f0 : wr.frozen? ⟨G, k * 4, none⟩ = false := (ht 0 (by decide)).2
      have f1 : wr.frozen? ⟨G, k * 4 + 1, none⟩ = false := (ht 1 (by decide)).2
      have f2 : wr.frozen? ⟨G, k * 4 + 2, none⟩ = false := (ht 2 (by decide)).2
      have f3 : wr.frozen? ⟨G, k * 4 + 3, none⟩ = false := (ht 3 (by decide)).2
      clear hR hC hcs ht hyl hy
      go_wp2
      go_roundw
      case rel => exact ⟨k + 1, ys.set k ⟨-5, 0, 0, 0⟩, by go_num, by omega, RwX.put HX.out.1 hkl _, Ch.set (p := ⟨G, k * 4 + 3, none⟩) (Ch.set (p := ⟨G, k * 4 + 2, none⟩) (Ch.set (p := ⟨G, k * 4 + 1, none⟩) (Ch.set (p := ⟨G, k * 4, none⟩) HX.out.2 (.inl rfl) _) (.inl rfl) _) (.inl rfl) _) (.inl rfl) _⟩
      case measure => simp [intOf]; omega
    · have hki : ¬ (k : Int) < (n : Int) := by omega
      have HX := hid_of' (And.intro hR hC)
      clear hR hC
      go_wp2
      go_loopw [0, 3] (fun v9 jv wq => ∃ (j : Nat) (zs : List Xg), jv = .int .i64 (j : Int) ∧ j ≤ 40 ∧ zs.length ≤ n + j ∧ RwX v9 zs wq ∧ At' w (.slice a n c) v9 ∧ Ch (fun k => Value.ownBlock (.slice a n c) = some k) w wq) (fun _ jv _ => 40 - (intOf jv).toNat)
      case atStart =>
        have hyl : ys.length = n := by have := HX.out.1.1; rw [xcells_len] at this; omega
        exact ⟨0, ys, rfl, by omega, by omega, by unfold RwX; rw [hyl]; exact HX.out.1, At'.refl _ _, HX.out.2⟩
      case round =>
        obtain ⟨j, zs, rfl, hj, hm, hR, hA, hC⟩ := hrel
        obtain ⟨za, zc, hv9, _, _⟩ := Rw.form hR
        have HM := hid_of' hm
        obtain ⟨m, hm9⟩ : ∃ m, m = zs.length := ⟨_, rfl⟩
        rw [← hm9] at hv9 hm
        subst hv9
        clear hm9
        by_cases hj4 : j < 40
        · have hji : (j : Int) < 40 := by omega
          have HS := hid_of' (And.intro (hR.later (below_one _ (.cells #[.int .i64 (-6), .int .i64 0, .int .i64 0, .int .i64 0] 66))) (so_g wr ⟨-6, 0, 0, 0⟩))
          have HY := hid_of' (And.intro hA hC)
          clear hR hA hC
          go_upto_region 6 with (at_builtin; refine wpL_appG (m := [⟨-6, 0, 0, 0⟩]) rfl _ _ rfl rfl rfl HS.out.1 HS.out.2 (by show _ + 1 ≤ _; have := HM.out; omega) ?_; intro u6 w6 q1 q2 q3)
          have hs := HY.out.2.size
          have hC6 := (HY.out.2.later (below_one _ (.cells #[.int .i64 (-6), .int .i64 0, .int .i64 0, .int .i64 0] 66))).grown q2 (fun k hk => HY.out.1 k hk)
          have hA6 : At' w (.slice a n c) u6 := fun k hk => (q3 k hk).elim (fun q => HY.out.1 k q) (fun q => .inr (by rw [World.size_alloc] at q; omega))
          have HZ := hid_of' (And.intro q1 (And.intro hA6 hC6))
          clear q1 q2 q3 hC6 hA6
          go_wp2
          go_roundw
          case rel => exact ⟨j + 1, zs ++ [⟨-6, 0, 0, 0⟩], by go_num, by omega, by have := HM.out; rw [List.length_append]; simp only [List.length_cons, List.length_nil]; omega, HZ.out.1, HZ.out.2.1, HZ.out.2.2⟩
          case measure => simp [intOf]; omega
        · have hji : ¬ (j : Int) < 40 := by omega
          have HY := hid_of' hC
          clear hR hA hC
          go_wp2
          go_end0
          exact ⟨⟨_, rfl⟩, HY.out⟩
end Go.Proofs.YtgkbgojgpomcdaaDoor
