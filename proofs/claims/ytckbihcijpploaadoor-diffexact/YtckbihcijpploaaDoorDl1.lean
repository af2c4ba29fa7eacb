
/-
  barrowlaw15.DiffCommon holds of any two texts.
-/
import Derived.Test.YtckbihcijpploaaDoorDm8
import Derived.Test.YtckbihcijpploaaDoorDp1
namespace Go.Proofs.YtckbihcijpploaaDoor
open Go.RowKit Go.Extern.Stop Go.Stop Go.Extern
set_option maxRecDepth 100000

theorem runes_ok (w : World) (s : ByteArray) (hs : s.size ≤ 1000000000) (hv : Lib.validD s.data.toList = true) :
    Calls Tryd.prog 25 #[.string s] w fun e w' => ∃ v, e = .returned (.tuple #[v, .bool true]) ∧ RwR v (rn s.data.toList) w' ∧ (∀ k, v.ownBlock = some k → w.heap.size ≤ k) ∧ Below w.heap.size w w' := by
  refine (runes_is w s hs).mono ?_
  rintro e w' ⟨⟨v, _, h1, h2, h3⟩ | ⟨h, _⟩, hb⟩
  · exact ⟨v, h1, h2, h3, hb⟩
  · rw [hv] at h
    cases h
theorem runes_no (w : World) (s : ByteArray) (hs : s.size ≤ 1000000000) (hv : Lib.validD s.data.toList = false) :
    Calls Tryd.prog 25 #[.string s] w fun e w' => e = .returned (.tuple #[.slice none 0 0, .bool false]) ∧ Below w.heap.size w w' := by
  refine (runes_is w s hs).mono ?_
  rintro e w' ⟨⟨v, h, _⟩ | ⟨_, h⟩, hb⟩
  · rw [hv] at h
    cases h
  · exact ⟨h, hb⟩
theorem chW_bad {a b : ByteArray} (h : Lib.validD a.data.toList = false ∨ Lib.validD b.data.toList = false) : ∃ i k, chW a b = some (i, k) := by
  unfold chW
  cases hv : Lib.validD a.data.toList
  · exact ⟨_, _, if_pos rfl⟩
  · rw [if_neg (by decide)]
    rcases h with h | h
    · rw [hv] at h; cases h
    · exact ⟨_, _, if_pos h⟩
theorem small70 {s : ByteArray} (h : s.size ≤ 120) : s.size ≤ 70368744177664 := by omega
theorem small9 {s : ByteArray} (h : s.size ≤ 120) : s.size ≤ 1000000000 := by omega
set_option maxHeartbeats 4000000 in
theorem common_law_ok {ad : Nat → Addr} {w : World} (E : Env ad w) (a b : ByteArray) (ha : a.size ≤ 9223372036854775807) (hb : b.size ≤ 9223372036854775807) (va : Lib.validD (clB a).data.toList = true) (vb : Lib.validD (clB b).data.toList = true) :
    Calls Tryd.prog 8 #[.string a, .string b] w fun e w' => e = .returned (.bool true) ∧ Below w.heap.size w w' := by
  have HCa := hid_of' (fun x => clip_is a ha x)
  have HCb := hid_of' (fun x => clip_is b hb x)
  have sa := clB_size a
  have sb := clB_size b
  generalize clB a = a' at HCa va sa
  generalize clB b = b' at HCb vb sb
  have hru := rn_ru _ _ (Nat.le_refl _) va
  have hal := Nat.le_trans (rn_len a'.data.toList) (show a'.data.toList.length ≤ 120 by rw [Array.length_toList]; exact sa)
  have hbl := Nat.le_trans (rn_len b'.data.toList) (show b'.data.toList.length ≤ 120 by rw [Array.length_toList]; exact sb)
  have hcr : ∀ r ∈ cm (rn a'.data.toList) (rn b'.data.toList), Ru r := fun r hr => hru r (cm_mem hr)
  have hcl : (cm (rn a'.data.toList) (rn b'.data.toList)).length ≤ 120 := Nat.le_trans (cm_sub _ _).1.length_le hal
  have hts := tx_size (cm (rn a'.data.toList) (rn b'.data.toList))
  have HRa := hid_of' (fun x => runes_ok x a' (small9 sa) va)
  have HRb := hid_of' (fun x => runes_ok x b' (small9 sb) vb)
  have HCo := hid_of' (fun (x : World) (hx : Below w.heap.size w x) => common_ok (E.later hx) a' b' (small70 sa) (small70 sb) (chW_small sa sb va vb))
  have HCs := hid_of' (fun (x : World) (hx : Below w.heap.size w x) => common_ok (E.later hx) a' a' (small70 sa) (small70 sa) (chW_small sa sa va va))
  rw [cm_self, tx_rn va] at HCs
  have HRc := hid_of' (fun x => runes_ok x (tx (cm (rn a'.data.toList) (rn b'.data.toList))) (by omega) (valid_tx hcr))
  rw [rn_tx hcr] at HRc
  have HS := hid_of' (cm_sub (rn a'.data.toList) (rn b'.data.toList))
  have HL := hid_of' (And.intro hal hbl)
  have HE := hid_of' E
  generalize rn a'.data.toList = xs at *
  generalize rn b'.data.toList = ys at *
  generalize cm xs ys = zs at *
  generalize tx zs = t at *
  clear va vb hru hal hbl hcr hcl hts E sa sb ha hb
  go_enter Tryd.func8, Tryd.ntmps8
  go_upto_region 2 with (go_at_call 9; first | (refine (HCa.out _).mono ?_; rintro e w9 ⟨rfl, h0⟩; obtain rfl := h0.symm) | (refine (HCb.out _).mono ?_; rintro e w9 ⟨rfl, h0⟩; obtain rfl := h0.symm))
  go_upto_region 3 with (go_at_call 25; refine (HRa.out _).mono ?_; rintro e w1 ⟨v1, rfl, h1, _, b1⟩)
  go_upto_region 4 with (go_at_call 25; refine (HRb.out _).mono ?_; rintro e w2 ⟨v2, rfl, h2, _, b2⟩)
  go_upto_region 5 with (go_at_call 16; refine (HCo.out _ (bgo b1 b2)).mono ?_; rintro e w3 ⟨rfl, b3⟩)
  go_upto_region 8 with (go_at_call 25; refine (HRc.out _).mono ?_; rintro e w4 ⟨v4, rfl, h4, _, b4⟩)
  go_upto_region 9 with (go_at_call 16; refine (HCs.out _ (bgo (bgo (bgo b1 b2) b3) b4)).mono ?_; rintro e w5 ⟨rfl, b5⟩)
  have HB := hid_of' (bgo (bgo (bgo (bgo b1 b2) b3) b4) b5)
  have HX := hid_of' (And.intro (((h1.later b2).later b3).later (bgo b4 b5)) (And.intro ((h2.later b3).later (bgo b4 b5)) (h4.later b5)))
  have HW1 := hid_of' (within_is HX.out.2.2 HX.out.1 HS.out.1 (by have := HL.out; omega))
  have HW2 := hid_of' (fun (x : World) (hx : Below w5.heap.size w5 x) => within_is (HX.out.2.2.later hx) (HX.out.2.1.later hx) HS.out.2 (by have := HL.out; omega))
  obtain ⟨o1, c1, e1, _⟩ := h1.form
  obtain ⟨o2, c2, e2, _⟩ := h2.form
  obtain ⟨o4, c4, e4, _⟩ := h4.form
  generalize xs.length = n1 at e1
  generalize ys.length = n2 at e2
  generalize zs.length = n4 at e4
  subst e1 e2 e4
  clear h1 h2 h4 b1 b2 b3 b4 b5
  go_wp2_with (first
    | (go_at_call 26; first
        | ((with_reducible refine HW1.out.mono ?_); rintro e w6 ⟨rfl, b6⟩; have HY := hid_of' b6; clear b6 HW1)
        | ((with_reducible refine (HW2.out _ HY.out).mono ?_); rintro e w7 ⟨rfl, b7⟩; have HZ := hid_of' (wakes_is (HE.out.later (bgo (bgo HB.out HY.out) b7))); have HB7 := hid_of' b7; clear b7 HW2))
    | (go_at_call 18; (with_reducible refine HZ.out.mono ?_); rintro e w8 ⟨rfl, b8⟩))
  go_ret
  exact ⟨rfl, bgo (bgo (bgo HB.out HY.out) HB7.out) b8⟩
set_option maxHeartbeats 4000000 in
theorem common_law_no {ad : Nat → Addr} {w : World} (E : Env ad w) (a b : ByteArray) (ha : a.size ≤ 9223372036854775807) (hb : b.size ≤ 9223372036854775807) (h : Lib.validD (clB a).data.toList = false ∨ Lib.validD (clB b).data.toList = false) :
    Calls Tryd.prog 8 #[.string a, .string b] w fun e w' => e = .returned (.bool true) ∧ Below w.heap.size w w' := by
  have HCa := hid_of' (fun x => clip_is a ha x)
  have HCb := hid_of' (fun x => clip_is b hb x)
  have sa := clB_size a
  have sb := clB_size b
  generalize clB a = a' at HCa h sa
  generalize clB b = b' at HCb h sb
  obtain ⟨ci, ck, hcw⟩ := chW_bad h
  have HCo := hid_of' (fun (x : World) (hx : Below w.heap.size w x) => common_no (E.later hx) a' b' (small70 sa) (small70 sb) hcw)
  have HRa := hid_of' (fun x => runes_is x a' (small9 sa))
  have HRb := hid_of' (fun x => runes_is x b' (small9 sb))
  have HE := hid_of' E
  have HV := hid_of' h
  clear h E sa sb ha hb hcw
  go_enter Tryd.func8, Tryd.ntmps8
  go_upto_region 2 with (go_at_call 9; first | (refine (HCa.out _).mono ?_; rintro e w9 ⟨rfl, h0⟩; obtain rfl := h0.symm) | (refine (HCb.out _).mono ?_; rintro e w9 ⟨rfl, h0⟩; obtain rfl := h0.symm))
  go_upto_region 3 with (go_at_call 25; refine (HRa.out _).mono ?_; rintro e w1 ⟨h1, b1⟩; obtain ⟨v1, k1, rfl, hk1⟩ : ∃ v k, e = .returned (.tuple #[v, .bool k]) ∧ k = Lib.validD a'.data.toList := h1.elim (fun ⟨v, q1, q2, _⟩ => ⟨v, true, q2, q1.symm⟩) (fun ⟨q1, q2⟩ => ⟨_, false, q2, q1.symm⟩); clear h1; have HK1 := hid_of' hk1; clear hk1)
  go_upto_region 4 with (go_at_call 25; refine (HRb.out _).mono ?_; rintro e w2 ⟨h2, b2⟩; obtain ⟨v2, k2, rfl, hk2⟩ : ∃ v k, e = .returned (.tuple #[v, .bool k]) ∧ k = Lib.validD b'.data.toList := h2.elim (fun ⟨v, q1, q2, _⟩ => ⟨v, true, q2, q1.symm⟩) (fun ⟨q1, q2⟩ => ⟨_, false, q2, q1.symm⟩); clear h2; have HK2 := hid_of' hk2; clear hk2)
  go_upto_region 5 with (go_at_call 16; refine (HCo.out _ (bgo b1 b2)).mono ?_; rintro e w3 ⟨v, rfl, ⟨bb, rfl, _, _, _⟩, b3⟩)
  have HB := hid_of' (bgo (bgo b1 b2) b3)
  have HZ := hid_of' (wakes_is (HE.out.later HB.out))
  clear b1 b2 b3
  have HV2 := hid_of' (by rw [HK1.out, HK2.out]; exact HV.out : k1 = false ∨ k2 = false)
  clear HK1 HK2
  cases k1
  · go_wp2_with (go_at_call 18; (with_reducible refine HZ.out.mono ?_); rintro e w8 ⟨rfl, b8⟩)
    go_ret
    exact ⟨rfl, bgo HB.out b8⟩
  · obtain rfl : k2 = false := HV2.out.elim (fun q => by cases q) (fun q => q)
    go_wp2_with (go_at_call 18; (with_reducible refine HZ.out.mono ?_); rintro e w8 ⟨rfl, b8⟩)
    go_ret
    exact ⟨rfl, bgo HB.out b8⟩
theorem diffCommon_all {ad : Nat → Addr} {w : World} (E : Env ad w) (a b : ByteArray) (ha : a.size ≤ 9223372036854775807) (hb : b.size ≤ 9223372036854775807) :
    Calls Tryd.prog 8 #[.string a, .string b] w fun e w' => e = .returned (.bool true) ∧ Below w.heap.size w w' := by
  cases va : Lib.validD (clB a).data.toList
  · exact common_law_no E a b ha hb (.inl va)
  · cases vb : Lib.validD (clB b).data.toList
    · exact common_law_no E a b ha hb (.inr vb)
    · exact common_law_ok E a b ha hb va vb
end Go.Proofs.YtckbihcijpploaaDoor
