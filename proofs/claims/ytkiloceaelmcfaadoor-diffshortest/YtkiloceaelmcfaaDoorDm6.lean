
/-
  diff.Common.
-/
import Derived.Test.YtkiloceaelmcfaaDoorDm5
namespace Go.Proofs.YtkiloceaelmcfaaDoor
open Go.RowKit Go.Extern.Stop Go.Stop Go.Extern
set_option maxRecDepth 100000

theorem kp_fits {xs ys : List Int} (h : xs = [] ∨ ys = [] ∨ xs.length + ys.length ≤ 8388608) : (kp 0 0 xs ys).length ≤ 8388608 := by
  rcases h with rfl | rfl | h
  · rw [kp_nil]
    exact Nat.zero_le _
  · rw [kp_nilr]
    exact Nat.zero_le _
  · have := kp_len _ 0 0 xs ys (Nat.le_refl _)
    omega
set_option maxHeartbeats 2000000 in
theorem common_no {ad : Nat → Addr} {w : World} (E : Env ad w) (a b : ByteArray) (ha : a.size ≤ 70368744177664) (hb : b.size ≤ 70368744177664) {i : Int} {k : Nat} (h : chW a b = some (i, k)) :
    Calls Tryd.prog 18 #[.string a, .string b] w fun e w' => ∃ v, e = .returned (.tuple #[.string .empty, v]) ∧ ErrR ad w.heap.size (some (bCommon, i, k)) v w' ∧ Below w.heap.size w w' := by
  have HC := hid_of' (chars_no E bCommon a b ha hb h)
  clear E h
  go_enter Tryd.func18, Tryd.ntmps18
  go_upto_region 2 with (go_at_call 28; refine HC.out.mono ?_; rintro e w1 ⟨v, rfl, ⟨bb, rfl, h2, h3, h4⟩, hb1⟩)
  go_wp2
  go_ret2
  exact ⟨_, rfl, ⟨bb, rfl, h2, h3, h4⟩, hb1⟩
set_option maxHeartbeats 4000000 in
theorem common_ok {ad : Nat → Addr} {w : World} (E : Env ad w) (a b : ByteArray) (ha : a.size ≤ 70368744177664) (hb : b.size ≤ 70368744177664) (h : chW a b = none) :
    Calls Tryd.prog 18 #[.string a, .string b] w fun e w' => e = .returned (.tuple #[.string (tx (cm (rn a.data.toList) (rn b.data.toList))), .nilIface]) ∧ Below w.heap.size w w' := by
  have HC := hid_of' (chars_ok E bCommon a b ha hb h)
  obtain ⟨hva, hvb, hf⟩ := chW_fits h
  have hru := rn_ru _ _ (Nat.le_refl _) hva
  have hal := Nat.le_trans (rn_len a.data.toList) (show a.data.toList.length ≤ 70368744177664 by rw [Array.length_toList]; exact ha)
  have hbl := Nat.le_trans (rn_len b.data.toList) (show b.data.toList.length ≤ 70368744177664 by rw [Array.length_toList]; exact hb)
  unfold ChOk at HC
  generalize rn a.data.toList = xs at HC hf hal hru ⊢
  generalize rn b.data.toList = ys at HC hf hbl ⊢
  have HK := hid_of' (And.intro (kp_len _ 0 0 xs ys (Nat.le_refl _)) (And.intro (kp_kc0 xs ys) (And.intro hal hbl)))
  have HF := hid_of' (And.intro hf hru)
  clear E h hf hva hvb hru hal hbl
  go_enter Tryd.func18, Tryd.ntmps18
  go_upto_region 2 with (go_at_call 28; refine HC.out.mono ?_; rintro e w1 ⟨v1, v2, rfl, h1, h2, _, _, hb1⟩)
  have HP := hid_of' (kept_ok h1 h2 HF.out.1)
  obtain ⟨a1, c1, hv1, _⟩ := h1.form
  obtain ⟨a2, c2, hv2, _⟩ := h2.form
  obtain ⟨n, hn⟩ : ∃ n, n = xs.length := ⟨_, rfl⟩
  obtain ⟨m, hm⟩ : ∃ m, m = ys.length := ⟨_, rfl⟩
  rw [← hn] at hv1
  rw [← hm] at hv2
  subst hv1 hv2
  have H1 := hid_of' (And.intro h1 (And.intro hb1 hn))
  clear h1 h2 hn hm hb1
  go_wp2_with (go_at_call 30; (with_reducible refine HP.out.mono ?_); rintro e w2 ⟨v3, rfl, h3, _, hb2⟩; obtain ⟨a3, c3, hv3, _⟩ := Rw.form h3; obtain ⟨q, hq⟩ : ∃ q, q = (kp 0 0 xs ys).length := ⟨_, rfl⟩; rw [← hq] at hv3; have hq2 : q ≤ 8388608 := (by have := kp_fits HF.out.1; omega); subst hv3; have H3 := hid_of' (And.intro h3 (And.intro hb2 hq)); clear h3 hb2 hq)
  go_loopw [9, 26] (fun cv kv wr => ∃ k : Nat, kv = .int .i64 (k : Int) ∧ k ≤ q ∧ RwR cv (((kp 0 0 xs ys).take k).map fun p => xs.getD p.1 0) wr ∧ (∀ g, cv.ownBlock = some g → w2.heap.size ≤ g) ∧ Ch (fun _ => False) w2 wr) (fun _ kv _ => q - (intOf kv).toNat)
  case atStart => exact ⟨0, rfl, Nat.zero_le _, RwR.nil _, (fun g hg => by cases hg), Ch.refl _ _⟩
  case round =>
    obtain ⟨k, rfl, hk, hR, hO, hC⟩ := hrel
    obtain ⟨a4, c4, hv4, _⟩ := hR.form
    have hbw : Below w2.heap.size w2 wr := hC.none (fun _ _ q => q)
    by_cases hkq : k < q
    · have hki : (k : Int) < (q : Int) := by omega
      obtain ⟨p, hp⟩ : ∃ p, (kp 0 0 xs ys)[k]? = some p := ⟨_, List.getElem?_eq_getElem (by rw [← H3.out.2.2]; exact hkq)⟩
      obtain ⟨z, hz, _⟩ := Kc.all HK.out.2.1 p (List.mem_of_getElem? hp)
      obtain ⟨g3, rfl, hg3, c30, c31⟩ := (H3.out.1.later hbw).at hp
      have hx0 : xs ≠ [] := by
        rintro rfl
        simp at hz
      obtain ⟨g1, cc1, hva1, _, hgl1, hcz⟩ := ((H1.out.1.later H3.out.2.1).later hbw).at hx0
      rw [← H1.out.2.2] at hva1
      cases hva1
      obtain ⟨p1, p2⟩ := p
      have hcx := hcz p1 z hz
      have hp1 : p1 < n := by rw [H1.out.2.2]; exact (List.getElem?_eq_some_iff.1 hz).1
      have hp1i : (p1 : Int) < (n : Int) := by omega
      have hln : (((kp 0 0 xs ys).take k).map fun p => xs.getD p.1 0).length ≤ k := by rw [List.length_map, List.length_take]; omega
      have HL := hid_of' (And.intro hln hq2)
      have HR := hid_of' (And.intro hR (And.intro hO (And.intro hC (And.intro hp hz))))
      dsimp only at c30 c31
      clear hln hcz hR hO hC hp hz hbw hq2
      generalize List.length _ = n4 at hv4
      subst hv4
      have b1 := below_one wr (.cells #[.int .i64 (p1 : Int), .int .i64 (p2 : Int)] 72)
      have r1 := RowAt.new wr #[.int .i64 (p1 : Int), .int .i64 (p2 : Int)] 72
      have k0 : (wr.alloc (.cells #[.int .i64 (p1 : Int), .int .i64 (p2 : Int)] 72)).cell? ⟨wr.heap.size, 0, none⟩ = some (.int .i64 (p1 : Int)) := r1.is rfl
      have cx1 : (wr.alloc (.cells #[.int .i64 (p1 : Int), .int .i64 (p2 : Int)] 72)).cell? ⟨g1, p1, none⟩ = some (.int .i32 z) := by rw [b1.cell hgl1]; exact hcx
      go_upto_region 8 with fail
      generalize wr.alloc (.cells #[.int .i64 (p1 : Int), .int .i64 (p2 : Int)] 72) = W5 at b1 r1 k0 cx1 ⊢
      have HS := hid_of' (And.intro ((HR.out.1.later b1).later (below_one W5 (.cells #[.int .i32 z] 21))) (so_new W5 21 1 #[.int .i32 z] rfl ([z].map (Value.int .i32)) rfl))
      have HB1 := hid_of' b1
      clear b1 r1 c30 c31 hcx
      go_upto_region 9 with (at_builtin; refine wpL_appR (m := [z]) rfl _ _ rfl rfl rfl HS.out.1 HS.out.2 (by have := HL.out; show _ + 1 ≤ _; omega) ?_; intro u6 w6 q1 q2 q3)
      have hC6 := ((HR.out.2.2.1.later HB1.out).later (below_one W5 _)).own q2 (fun g hg => HR.out.2.1 g hg)
      have hO6 : ∀ g, u6.ownBlock = some g → w2.heap.size ≤ g := fun g hg => (q3 g hg).elim (fun e => HR.out.2.1 g e) (fun e => by have h1 := HB1.out.size; have h2 := HR.out.2.2.1.size; rw [World.size_alloc] at e; omega)
      have H6 := hid_of' (And.intro q1 (And.intro hO6 hC6))
      have hk9 : k ≤ 8388608 := by have := HL.out; omega
      clear q1 q2 q3 hO6 hC6 HS k0 cx1
      go_wp2
      go_roundw
      case rel =>
        refine ⟨k + 1, by go_num, by omega, ?_, H6.out.2.1, H6.out.2.2⟩
        rw [List.take_add_one, HR.out.2.2.2.1, List.map_append]
        have e : ((some (p1, p2)).toList.map fun p : Nat × Nat => xs.getD p.1 0) = [z] := by
          show [xs.getD p1 0] = [z]
          rw [List.getD, HR.out.2.2.2.2]
          rfl
        rw [e]
        exact H6.out.1
      case measure => simp [intOf]; omega
    · have hki : ¬ (k : Int) < (q : Int) := by omega
      obtain rfl : k = q := by omega
      have e : (((kp 0 0 xs ys).take k).map fun p => xs.getD p.1 0) = cm xs ys := by
        rw [H3.out.2.2, List.take_length]
        rfl
      rw [e] at hR
      have HR := hid_of' (And.intro hR (bgo (bgo H1.out.2.1 H3.out.2.1) hbw))
      clear hR hO hC hbw e hv4
      go_wp2_with (refine wpL_str rfl _ rfl rfl HR.out.1 (fun r hr => HF.out.2 r (cm_mem hr)) ?_)
      go_ret2
      exact ⟨rfl, HR.out.2⟩
end Go.Proofs.YtkiloceaelmcfaaDoor
