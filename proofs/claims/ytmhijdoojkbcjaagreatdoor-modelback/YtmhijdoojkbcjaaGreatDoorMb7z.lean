
/-
  barrowlaw05.ModelBack.
-/
import Derived.Test.YtmhijdoojkbcjaaGreatDoorMbA
namespace Go.Proofs.YtmhijdoojkbcjaaGreatDoor
open Go.RowKit Go.Extern.Stop Go.Stop Go.Extern
set_option maxRecDepth 100000

theorem live_next : ∀ (l : List El) (i : Nat), i < l.length → liveL (l.take (i + 1)) = liveL (l.take i) + if isA l i = true then 1 else 0
  | [], i, h => by simp at h
  | e :: l, 0, _ => by
    simp only [List.take_succ_cons, List.take_zero, liveL, isA, List.getElem?_cons_zero, wLive, decide_eq_true_eq]
    split <;> split <;> omega
  | e :: l, i + 1, h => by
    have ih := live_next l i (by simpa using h)
    have e1 : isA (e :: l) (i + 1) = isA l i := by unfold isA; rw [List.getElem?_cons_succ]
    rw [e1, List.take_succ_cons, List.take_succ_cons]
    simp only [liveL]
    omega
theorem isA_end (l : List El) : isA l l.length = false := by
  unfold isA
  rw [List.getElem?_eq_none (Nat.le_refl _)]
set_option maxHeartbeats 4000000 in
theorem modelBack_bad {ad : Nat → Addr} {w : World} {u : Value} {l : List El} (L : Laid ad w) (hu : SlE w u l) (hc : ∀ a n c, u = .slice a n c → n ≤ c) (hlm : l.length ≤ 9223372036854775807) (hi : ∀ e ∈ l, e.id.In) (j : Nat) (ej : El) (hej : (l.take 100)[j]? = some ej) (kk : Nat) (hkk : wrK ((l.take 100).take j) ej = some kk) (hf : FineTo (l.take 100) j) :
    Calls Tryz.prog 3 #[u] w fun r w' => r = .returned (.bool true) ∧ Below w.heap.size w w' := by
  have HB := hid_of' (begun_bad L hu hc hlm hi j ej hej kk hkk hf)
  have HW := hid_of' wakes5_ok
  obtain ⟨a', c', rfl⟩ := hu.form
  clear hu hc hlm hi hej hkk hf L
  go_enter Tryz.func3, Tryz.ntmps3
  go_wp2_with (first | (go_at_call 6; refine HB.out.mono ?_; rintro r w1 ⟨rfl, hb1⟩; clear HB) | (go_at_call 7; refine (HW.out _).mono ?_; rintro r w2 ⟨rfl, hb2⟩))
  go_ret
  exact ⟨rfl, bgo hb1 hb2⟩
set_option maxHeartbeats 8000000 in
theorem modelBack_good {ad : Nat → Addr} {w : World} {u : Value} {l : List El} (L : Laid ad w) (hu : SlE w u l) (hc : ∀ a n c, u = .slice a n c → n ≤ c) (hlm : l.length ≤ 9223372036854775807) (hi : ∀ e ∈ l, e.id.In) (hf : FineTo (l.take 100) (l.take 100).length) :
    Calls Tryz.prog 3 #[u] w fun r w' => r = .returned (.bool true) ∧ Below w.heap.size w w' := by
  have HB := hid_of' (begun_good hu hc hlm hi hf)
  have HW := hid_of' wakes5_ok
  obtain ⟨a', c', rfl⟩ := hu.form
  have hm : (l.take 100).length ≤ 100 := by rw [List.length_take]; omega
  clear hu hc hlm hi hf
  generalize l.take 100 = m at HB hm
  unfold pv at HB
  go_enter Tryz.func3, Tryz.ntmps3
  go_upto_region 4 with (go_at_call 6; refine HB.out.mono ?_; rintro r w1 ⟨B, pb, mb, tb, kb, n, v, R, hB, rfl, hP, hb1⟩; clear HB)
  obtain ⟨K, hK⟩ : ∃ K : Nat, liveL m = (K : Int) := ⟨_, liveL_vis m⟩
  have hKm : (K : Int) ≤ m.length := by rw [← hK]; exact liveL_len m
  have MV : Hid (∀ x, Below w1.heap.size w1 x → MvAt mb m x) := fun x hx => hP.md.mv.later hx
  have PC : Hid (∀ x, Below w1.heap.size w1 x → x.cell? ⟨pb, 0, none⟩ = some (.pointer (some ⟨mb, 0, none⟩))) := fun x hx => (hP.row.later hx).cell 0
  have LL : Hid (∀ x, Below w1.heap.size w1 x → Laid ad x) := fun x hx => L.below (bgo hb1 hx)
  clear hP hB L
  have HL : Hid (∀ x, Below w1.heap.size w1 x → _) := fun x hx => live_md (MV.out x hx)
  have HN : Hid (∀ x, Below w1.heap.size w1 x → _) := fun x hx => lenMv_ok (MV.out x hx)
  have HM : Hid (∀ (x : World) (k : Int), 0 ≤ k → k < liveL m → Below w1.heap.size w1 x → _) := fun x k h1 h2 hx => modelOf_ok (MV.out x hx) k (by omega) h1 h2
  have HP : Hid (∀ (x : World) (k : Int), 0 ≤ k → k < liveL m → Below w1.heap.size w1 x → _) := fun x k h1 h2 hx => place_ok (MV.out x hx) k (by omega) h1 h2
  have HV : Hid (∀ (x : World) (i : Nat), i ≤ m.length → Below w1.heap.size w1 x → _) := fun x i h1 hx => viewOf_any (MV.out x hx) (LL.out x hx) (by omega) i h1
  have HZ := hid_of' (place_zero mb)
  rw [hK] at HL HM HP
  have hKl := hid_of' hK
  clear hK
  unfold pv at HL HN HM HP HV HZ
  have c1 := PC.out w1 (Below.refl _ _)
  go_upto_region 6 with (go_at_call 8; refine (HL.out _ (Below.refl _ _)).mono ?_; rintro r w2 ⟨rfl, hb2⟩; clear HL)
  clear c1
  go_loopw [6] (fun vv wr => ∃ k : Nat, vv = .int .i64 (k : Int) ∧ k ≤ K ∧ Below w1.heap.size w1 wr) (fun vv _ => K - (intOf vv).toNat)
  case atStart => exact ⟨0, rfl, Nat.zero_le _, hb2⟩
  case round =>
    obtain ⟨k, rfl, hk, hbr⟩ := hrel
    by_cases hlt : k < K
    · have hki : (k : Int) < (K : Int) := by omega
      obtain ⟨J, hJ⟩ : ∃ J, idxL m (k : Int) = J := ⟨_, rfl⟩
      obtain ⟨e, he, hel, hev⟩ := idxL_spec m (k : Int) (by omega) (by rw [hKl.out]; exact hki)
      rw [hJ] at he hev
      have hJl : J < m.length := (List.getElem?_eq_some_iff.1 he).1
      have hA : isA m J = true := by unfold isA; rw [he]; simp; omega
      have HM1 := hid_of' (fun x hx => HM.out x (k : Int) (by omega) hki hx)
      have HP1 := hid_of' (fun x hx => HP.out x (k : Int) (by omega) hki hx)
      have HV1 := hid_of' (fun x hx => HV.out x J (by omega) hx)
      rw [hJ] at HM1 HP1
      rw [hev, hA] at HV1
      clear hJ he hel hev hA
      have cc := PC.out _ hbr
      go_upto_region 7 with (first | (go_at_call 9; refine (HM1.out _ hbr).mono ?_; rintro r w3 ⟨rfl, hb3⟩; have hbr3 := bgo hbr hb3; have c3 := PC.out _ hbr3; clear HM1) | (go_at_call 10; refine (HV1.out _ hbr3).mono ?_; rintro r w4 ⟨rfl, hb4⟩; have hbr4 := bgo hbr3 hb4; have c4 := PC.out _ hbr4; clear HV1) | (go_at_call 11; refine (HP1.out _ hbr4).mono ?_; rintro r w5 ⟨rfl, hb5⟩; have hbr5 := bgo hbr4 hb5; clear HP1))
      go_wp2
      go_roundw
      case rel => exact ⟨k + 1, by go_num, by omega, hbr5⟩
      case measure => simp [intOf]; omega
    · obtain rfl : k = K := by omega
      clear hlt hk
      go_upto_region 17 with fail
      go_loopw [14, 15] (fun sv iv wr => ∃ i s : Nat, iv = .int .i64 (i : Int) ∧ sv = .int .i64 (s : Int) ∧ i ≤ m.length + 1 ∧ (s : Int) = liveL (m.take i) ∧ Below w1.heap.size w1 wr) (fun _ iv _ => m.length + 1 - (intOf iv).toNat)
      case atStart => exact ⟨0, 0, rfl, rfl, Nat.zero_le _, rfl, hbr⟩
      case round =>
        obtain ⟨i, s, rfl, rfl, hi, hs, hbq⟩ := hrel
        have hsm : (s : Int) ≤ 100 := by have := liveL_len (m.take i); rw [List.length_take] at this; omega
        have hsL := hid_of' hs
        clear hs
        by_cases hle : i ≤ m.length
        · have hil : (i : Int) ≤ (m.length : Int) := by omega
          have HN1 := hid_of' HN.out
          have HV1 := hid_of' (fun x hx => HV.out x i hle hx)
          rw [← hsL.out] at HV1
          have cc := PC.out _ hbq
          by_cases hlt : i < m.length
          · have hne : ¬ (i : Int) = (m.length : Int) := by omega
            have hnx := live_next m i hlt
            rw [← hsL.out] at hnx
            cases hA : isA m i with
            | true =>
              rw [hA] at hnx HV1
              have hN2 := hid_of' hnx
              clear hnx hA
              go_upto_region 18 with (first | (go_at_call 12; first | (refine (HN.out _ hbq4).mono ?_; rintro r w5 ⟨rfl, hw5⟩; obtain rfl := hw5.symm) | (refine (HN.out _ hbq).mono ?_; rintro r w3 ⟨rfl, hw3⟩; obtain rfl := hw3.symm)) | (go_at_call 10; refine (HV1.out _ hbq).mono ?_; rintro r w4 ⟨rfl, hb4⟩; have hbq4 := bgo hbq hb4; have c4 := PC.out _ hbq4; clear HV1))
              go_wp2
              go_roundw
              case rel => exact ⟨i + 1, s + 1, by go_num, by go_num, by omega, by rw [hN2.out]; simp, hbq4⟩
              case measure => simp [intOf]; omega
            | false =>
              rw [hA] at hnx HV1
              have hN2 := hid_of' hnx
              clear hnx hA
              go_upto_region 18 with (first | (go_at_call 12; first | (refine (HN.out _ hbq4).mono ?_; rintro r w5 ⟨rfl, hw5⟩; obtain rfl := hw5.symm) | (refine (HN.out _ hbq).mono ?_; rintro r w3 ⟨rfl, hw3⟩; obtain rfl := hw3.symm)) | (go_at_call 10; refine (HV1.out _ hbq).mono ?_; rintro r w4 ⟨rfl, hb4⟩; have hbq4 := bgo hbq hb4; have c4 := PC.out _ hbq4; clear HV1))
              go_wp2
              go_roundw
              case rel => exact ⟨i + 1, s, by go_num, rfl, by omega, by rw [hN2.out]; simp, hbq4⟩
              case measure => simp [intOf]; omega
          · obtain rfl : i = m.length := by omega
            rw [isA_end] at HV1
            clear hlt
            have hN2 := hsL
            go_upto_region 18 with (first | (go_at_call 12; first | (refine (HN.out _ hbq4).mono ?_; rintro r w5 ⟨rfl, hw5⟩; obtain rfl := hw5.symm) | (refine (HN.out _ hbq).mono ?_; rintro r w3 ⟨rfl, hw3⟩; obtain rfl := hw3.symm)) | (go_at_call 10; refine (HV1.out _ hbq).mono ?_; rintro r w4 ⟨rfl, hb4⟩; have hbq4 := bgo hbq hb4; have c4 := PC.out _ hbq4; clear HV1))
            go_wp2
            go_roundw
            case rel => exact ⟨m.length + 1, s, by go_num, rfl, by omega, by rw [hN2.out, List.take_of_length_le (Nat.le_refl _), List.take_of_length_le (Nat.le_succ _)], hbq4⟩
            case measure => simp [intOf]
        · have hil : ¬ (i : Int) ≤ (m.length : Int) := by omega
          have hsK : s = k := by
            have h1 := hsL.out
            rw [List.take_of_length_le (by omega), hKl.out] at h1
            omega
          subst hsK
          have cc := PC.out _ hbq
          go_wp2_with (first | (go_at_call 12; refine (HN.out _ hbq).mono ?_; rintro r w3 ⟨rfl, hw3⟩; obtain rfl := hw3.symm) | (go_at_call 11; refine (HZ.out _).mono ?_; rintro r w4 ⟨rfl, hb4⟩) | (go_at_call 7; refine (HW.out _).mono ?_; rintro r w5 ⟨rfl, hb5⟩))
          go_ret
          exact ⟨rfl, bgo (bgo hb1 hbq) (bgo hb4 hb5)⟩
theorem modelBack_all {ad : Nat → Addr} {w : World} {u : Value} {l : List El} (L : Laid ad w) (hu : SlE w u l) (hc : ∀ a n c, u = .slice a n c → n ≤ c) (hlm : l.length ≤ 9223372036854775807) (hi : ∀ e ∈ l, e.id.In) :
    Calls Tryz.prog 3 #[u] w fun r w' => r = .returned (.bool true) ∧ Below w.heap.size w w' := by
  rcases fine_or (l.take 100) with h | ⟨j, e, kk, h1, h2, h3⟩
  · exact modelBack_good L hu hc hlm hi h
  · exact modelBack_bad L hu hc hlm hi j e h1 kk h2 h3
end Go.Proofs.YtmhijdoojkbcjaaGreatDoor
