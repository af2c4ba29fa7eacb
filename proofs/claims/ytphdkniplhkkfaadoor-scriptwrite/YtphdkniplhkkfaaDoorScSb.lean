
/-
  barrowkeep.SpoilBytes.
-/
import Derived.Test.YtphdkniplhkkfaaDoorScLn
namespace Go.Proofs.YtphdkniplhkkfaaDoor
open Go.RowKit Go.Extern.Stop Go.Stop Go.Extern
set_option maxRecDepth 100000

theorem so_b (w : World) (x : Int) : So 1 (.slice (some ⟨w.heap.size, 0, none⟩) 1 1) 1 [.int .u8 x] (w.alloc (.cells #[.int .u8 x] 5)) :=
  ⟨rfl, .inr ⟨_, _, rfl, fun j u hj => by
    match j, hj with
    | 0, hj =>
      cases hj
      rw [Addr.add_lit]
      exact RowAt.is (row_new w #[.int .u8 x] 5) rfl
    | j + 1, hj => simp at hj⟩⟩
set_option maxHeartbeats 4000000 in
theorem spoilBytes_is {w : World} {v : Value} {n : Nat} {xs : List Value} (h : Rw 5 1 v n xs w) (hx : u8s xs) (hn : n ≤ 140737488351232) :
    Calls Tryd.prog 9 #[v] w fun e w' => (∃ z, e = .returned z) ∧ Ch (fun k => v.ownBlock = some k) w w' := by
  obtain ⟨i0, hi0, hz0, hz1, hz2⟩ := info_parts infoB
  have HI := hid_of' (And.intro hi0 (And.intro hz0 (And.intro hz1 hz2)))
  obtain ⟨a, c, rfl, _, _⟩ := h.form
  have H := hid_of' h
  clear h hi0 hz0 hz1 hz2
  go_enter Tryd.func9, Tryd.ntmps9
  go_wp2
  go_loopw [2] (fun kv wr => ∃ (k : Nat) (ys : List Value), kv = .int .i64 (k : Int) ∧ k ≤ n ∧ Rw 5 1 (.slice a n c) n ys wr ∧ u8s ys ∧ Ch (fun k => Value.ownBlock (.slice a n c) = some k) w wr) (fun kv _ => n - (intOf kv).toNat)
  case atStart => exact ⟨0, xs, rfl, by omega, H.out, hx, Ch.refl _ _⟩
  case round =>
    obtain ⟨k, ys, rfl, hk, hR, hu, hC⟩ := hrel
    by_cases hkl : k < n
    · have hki : (k : Int) < (n : Int) := by omega
      obtain ⟨G, rfl⟩ := hR.some (by omega)
      have hyl : ys.length = n := by have := hR.1; omega
      obtain ⟨y, hy⟩ : ∃ y, ys[k]? = some y := ⟨_, List.getElem?_eq_getElem (by omega)⟩
      obtain ⟨z, rfl⟩ := hu y (List.mem_of_getElem? hy)
      have hat := rw_at1 hR hy
      have m1 := hat.1
      have m2 := hat.2
      have HX := hid_of' (And.intro hR (And.intro hu hC))
      clear hR hC hat hy hyl hu
      go_wp2
      go_roundw
      case rel => exact ⟨k + 1, ys.set k _, by go_num, by omega, rw_set1 HX.out.1 k _, HX.out.2.1.set k _, Ch.set (p := ⟨G, k, none⟩) HX.out.2.2 (.inl rfl) _⟩
      case measure => simp [intOf]; omega
    · have hki : ¬ (k : Int) < (n : Int) := by omega
      have HX := hid_of' (And.intro hR hC)
      clear hR hC
      go_wp2
      go_loopw [0, 3] (fun v9 jv wq => ∃ (j m : Nat) (zs : List Value), jv = .int .i64 (j : Int) ∧ j ≤ 40 ∧ m ≤ n + j ∧ Rw 5 1 v9 m zs wq ∧ At' w (.slice a n c) v9 ∧ Ch (fun k => Value.ownBlock (.slice a n c) = some k) w wq) (fun _ jv _ => 40 - (intOf jv).toNat)
      case atStart => exact ⟨0, n, ys, rfl, by omega, by omega, HX.out.1, At'.refl _ _, HX.out.2⟩
      case round =>
        obtain ⟨j, m, zs, rfl, hj, hm, hR, hA, hC⟩ := hrel
        obtain ⟨za, zc, hv9, _, _⟩ := hR.form
        subst hv9
        by_cases hj4 : j < 40
        · have hji : (j : Int) < 40 := by omega
          have HS := hid_of' (And.intro (hR.later (below_one _ (.cells #[.int .u8 85] 5))) (so_b wr 85))
          have HY := hid_of' (And.intro hA hC)
          clear hR hA hC
          go_upto_region 6 with (at_builtin; refine wpL_app (P := Tryd.prog) rfl _ _ 24 rfl 5 i0 _ 1 1 Tryd.underlying24 HI.out.1 HI.out.2.1 HI.out.2.2.1 HI.out.2.2.2 rfl rfl rfl HS.out.1 HS.out.2 (fun y hy => by rw [List.mem_singleton] at hy; subst hy; rfl) (by unfold maxLen; omega) (by omega) ?_; intro u6 w6 q1 q2 q3)
          have hs := HY.out.2.size
          have hC6 := (HY.out.2.later (below_one _ (.cells #[.int .u8 85] 5))).grown q2 (fun k hk => HY.out.1 k hk)
          have hA6 : At' w (.slice a n c) u6 := fun k hk => (q3 k hk).elim (fun q => HY.out.1 k q) (fun q => .inr (by rw [World.size_alloc] at q; omega))
          have HZ := hid_of' (And.intro q1 (And.intro hA6 hC6))
          clear q1 q2 q3 hC6 hA6
          go_wp2
          go_roundw
          case rel => exact ⟨j + 1, m + 1, _, by go_num, by omega, by omega, HZ.out.1, HZ.out.2.1, HZ.out.2.2⟩
          case measure => simp [intOf]; omega
        · have hji : ¬ (j : Int) < 40 := by omega
          have HY := hid_of' hC
          clear hR hA hC
          go_wp2
          go_end0
          exact ⟨⟨_, rfl⟩, HY.out⟩
end Go.Proofs.YtphdkniplhkkfaaDoor
