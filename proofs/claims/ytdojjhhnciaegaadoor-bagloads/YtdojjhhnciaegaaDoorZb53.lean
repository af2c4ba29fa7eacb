
/-
  barrowlaw10.BagLoads.
-/
import Derived.Test.YtdojjhhnciaegaaDoorZb52
import Derived.Test.YtdojjhhnciaegaaDoorZb41
namespace Go.Proofs.YtdojjhhnciaegaaDoor
open Go.RowKit Go.Extern.Stop Go.Stop Go.Extern
set_option maxRecDepth 100000

/-- What the program's Load tells. -/
def LdQ (ad : Nat → Addr) (m : Int) (l : List Pl) (oo : Rf) (N : Nat) (e : Ending) (w' : World) : Prop := ∃ u ev, e = .returned (.tuple #[u, ev]) ∧ ErrR ad N oo ev w' ∧ ((oo = none ∧ ∃ B v', u = .pointer (some ⟨B, 0, none⟩) ∧ N ≤ B ∧ BgAt B v' (ldG m l) (fun k => N ≤ k) w' ∧ ∀ k, v'.ownBlock = some k → N ≤ k) ∨ (oo ≠ none ∧ u = .pointer none))
/-- What the document's Load tells. -/
def RdQ (m : Int) (l : List Pl) (oo : Rf) (N : Nat) (e : Ending) (w' : World) : Prop := ∃ u nv, e = .returned (.tuple #[u, nv]) ∧ NoR N oo nv w' ∧ ((oo = none ∧ ∃ B v', u = .pointer (some ⟨B, 0, none⟩) ∧ N ≤ B ∧ RgAt B v' (ldG m l) (fun k => N ≤ k) w' ∧ ∀ k, v'.ownBlock = some k → N ≤ k) ∨ (oo ≠ none ∧ u = .pointer none))
theorem loads_both {ad : Nat → Addr} {w : World} (L : Laid ad w) {v : Value} {l : List Pl} (h : SlQ w v l) (m : Int) :
    ∃ oo, (Calls Tryd.prog 12 #[.int .i64 m, v] w fun e w' => LdQ ad m l oo w.heap.size e w' ∧ Below w.heap.size w w') ∧ ∀ w1, Below w.heap.size w w1 → Calls Tryd.prog 13 #[.int .i64 m, v] w1 fun e w' => RdQ m l oo w1.heap.size e w' ∧ Below w1.heap.size w1 w' := by
  by_cases hr : m < 0 ∨ 4096 < m
  · obtain ⟨a, c, rfl⟩ := h.form
    refine ⟨some (bLoad, m, 0), (load_most m hr w L.lb a _ c).mono ?_, fun w1 hb => (refLoad_most m hr w1 a _ c).mono ?_⟩
    · rintro e w' ⟨u, rfl, h1, h2⟩
      exact ⟨⟨_, u, rfl, h1, .inr ⟨by simp, rfl⟩⟩, h2⟩
    · rintro e w' ⟨u, rfl, h1, h2⟩
      exact ⟨⟨_, u, rfl, h1, .inr ⟨by simp, rfl⟩⟩, h2⟩
  have h0 : 0 ≤ m := by omega
  have h1 : m ≤ 4096 := by omega
  by_cases hn : m < (l.length : Int)
  · obtain ⟨a, c, rfl⟩ := h.form
    refine ⟨some (bLoad, (l.length : Int), 0), (load_many m h0 h1 w L.lb a _ c hn).mono ?_, fun w1 hb => (refLoad_many m h0 h1 w1 a _ c hn).mono ?_⟩
    · rintro e w' ⟨u, rfl, h1, h2⟩
      exact ⟨⟨_, u, rfl, h1, .inr ⟨by simp, rfl⟩⟩, h2⟩
    · rintro e w' ⟨u, rfl, h1, h2⟩
      exact ⟨⟨_, u, rfl, h1, .inr ⟨by simp, rfl⟩⟩, h2⟩
  have hl : (l.length : Int) ≤ m := by omega
  rcases right_split l with hall | ⟨i, q, hq, hb, hto⟩
  · refine ⟨none, (load_ok h m h0 h1 hl hall).mono ?_, fun w1 hb => (refLoad_any (h.later hb) m h0 h1 hl).mono ?_⟩
    · rintro e w' ⟨B, v', rfl, k1, k2, k3, k4⟩
      exact ⟨⟨_, _, rfl, rfl, .inl ⟨rfl, B, v', rfl, k1, k2, k3⟩⟩, k4⟩
    · rintro e w' ⟨⟨bv, nv, rfl, hr⟩, k4⟩
      rcases hr with ⟨_, rfl, B, v', rfl, k1, k2, k3⟩ | ⟨i, q, hq, hb', _⟩
      · exact ⟨⟨_, _, rfl, rfl, .inl ⟨rfl, B, v', rfl, k1, k2, k3⟩⟩, k4⟩
      · have := hall i q (List.getElem?_eq_some_iff.1 hq).1 hq
        rw [hb'] at this; cases this
  · refine ⟨some (bLoad, (i : Int), 5), (load_bad L h m h0 h1 hl i q hq hb hto).mono ?_, fun w1 hb1 => (refLoad_any (h.later hb1) m h0 h1 hl).mono ?_⟩
    · rintro e w' ⟨u, rfl, k1, k2⟩
      exact ⟨⟨_, u, rfl, k1, .inr ⟨by simp, rfl⟩⟩, k2⟩
    · rintro e w' ⟨⟨bv, nv, rfl, hr⟩, k4⟩
      rcases hr with ⟨hall, _⟩ | ⟨j, r, hq', hb', hto', rfl, hno⟩
      · have := hall i q (List.getElem?_eq_some_iff.1 hq).1 hq
        rw [hb] at this; cases this
      · obtain rfl : i = j := by
          rcases Nat.lt_trichotomy i j with lt | e | lt
          · have := hto' i q lt hq
            rw [hb] at this; cases this
          · exact e
          · have := hto j r lt hq'
            rw [hb'] at this; cases this
        exact ⟨⟨_, nv, rfl, hno, .inr ⟨by simp, rfl⟩⟩, k4⟩
set_option maxHeartbeats 16000000 in
theorem bagLoads_all {ad : Nat → Addr} {w : World} (L : Laid ad w) (m : Int) (v : Value) (l : List Pl) (hq : SlQ w v l) (hc : ∀ a n c, v = .slice a n c → n ≤ c) (v2 : Value) (os : List Opb) (hos : SlOb w v2 os) :
    Calls Tryd.prog 4 #[.int .i64 m, v, v2] w fun e w' => e = .returned (.bool true) ∧ Below w.heap.size w w' := by
  obtain ⟨a9, c9, rfl⟩ := hos.form
  obtain ⟨a8, c8, rfl⟩ := hq.form
  have hcap := hc _ _ _ rfl
  have HO := hid_of' hos
  clear hos hc
  go_enter Tryd.func4, Tryd.ntmps4
  by_cases h60 : l.length ≤ 60
  · have h60i : ¬ (60 : Int) < (l.length : Int) := by omega
    obtain ⟨l9, hl9⟩ : ∃ l9, l = l9 := ⟨_, rfl⟩
    subst hl9
    have hq0 := hq
    go_upto_region 3 with fail
    clear h60i hq h60 hcap
    obtain ⟨oo, hA, hB⟩ := loads_both L hq0 m
    have HL := hid_of' L
    have HA := hid_of' hA
    have HB := hid_of' hB
    clear L hA hB hq0
    go_upto_region 4 with (go_at_call 12; refine HA.out.mono ?_; rintro e w1 ⟨⟨u, ev, rfl, e1, u1⟩, b1⟩; clear HA)
    have HS := hid_of' (HB.out w1 b1)
    have H1 := hid_of' (And.intro e1 (And.intro u1 b1))
    clear HB e1 u1 b1
    go_upto_region 5 with (first | (go_at_call 13; refine HS.out.mono ?_; rintro e w2 ⟨⟨u', nv, rfl, e2, u2⟩, b2⟩; clear HS; obtain ⟨z0, z1, z2, z3, z4, z5, z6, rfl⟩ := e2.form; have H2 := hid_of' (And.intro e2 (And.intro u2 b2)); clear e2 u2 b2; unfold nov) | (refine wpL_storeNo rfl _ _ rfl rfl (code := z0) (a := z1) (n := z2) (c := z3) (a' := z4) (n' := z5) (c' := z6) rfl (row_new w2 _ _) ?_))
    have rN := (row_new w2 #[.int .i64 0, .slice none 0 0, .slice none 0 0] 32).put (nov z0 z1 z2 z3 z4 z5 z6)
    have hb3 := below_row (below_one w2 (.cells #[.int .i64 0, .slice none 0 0, .slice none 0 0] 32)) (Nat.le_refl _) (nov z0 z1 z2 z3 z4 z5 z6)
    generalize (w2.alloc (.cells #[.int .i64 0, .slice none 0 0, .slice none 0 0] 32)).setRow w2.heap.size (nov z0 z1 z2 z3 z4 z5 z6) = w3 at rN hb3 ⊢
    have hb03 := bgo (bgo H1.out.2.2 H2.out.2.2) hb3
    have HRf := hid_of' (refused_is (HL.out.below hb03) (H1.out.1.later (bgo H2.out.2.2 hb3)) (H2.out.1.later hb3))
    have HB3 := hid_of' (And.intro hb03 (And.intro (bgo H2.out.2.2 hb3) hb3))
    have HRN := hid_of' rN
    clear rN hb3 hb03
    rcases H1.out.2.1 with ⟨hoo, B, vb, rfl, k1, k2, k3⟩ | ⟨hoo, rfl⟩
    · rcases H2.out.2.1 with ⟨_, R, vr, rfl, j1, j2, j3⟩ | ⟨hno, _⟩
      · have z1 := k2.lies.lt
        have z2 := j2.lies.lt
        have z3 := k2.row.lt
        have z4 := j2.row.lt
        have z5 := H1.out.2.2.size
        have z6 := H2.out.2.2.size
        have z7 := HB3.out.2.2.size
        go_upto_region 9 with (first | (refine wpL_loadNo rfl _ rfl rfl HRN.out rfl ?_) | (go_at_call 7; refine HRf.out.mono ?_; rintro e w4 ⟨rfl, hb4⟩; clear HRf))
        have z8 := hb4.size
        have r4 := row_new w4 #[.pointer (some ⟨B, 0, none⟩), .pointer (some ⟨R, 0, none⟩)] 39
        have hb5 := bgo hb4 (below_one w4 (.cells #[.pointer (some ⟨B, 0, none⟩), .pointer (some ⟨R, 0, none⟩)] 39))
        have hpr : PrAt w.heap.size w4.heap.size B R vb vr (ldG m l) (ldG m l) (w4.alloc (.cells #[.pointer (some ⟨B, 0, none⟩), .pointer (some ⟨R, 0, none⟩)] 39)) := by
          refine ⟨r4, ((k2.later HB3.out.2.1).later hb5).mono (fun _ _ _ => trivial), ((j2.later HB3.out.2.2).later hb5).mono (fun _ _ _ => trivial), ?_, ?_, by omega⟩
          · rintro k (e | e)
            · exact ⟨by omega, by omega, by rintro (q | q) <;> first | omega | (have := j3 k q; omega)⟩
            · have y1 := k3 k e
              have y2 := z3 k e
              exact ⟨by omega, by omega, by rintro (q | q) <;> first | omega | (have := j3 k q; omega)⟩
          · rintro k (e | e)
            · exact ⟨by omega, by omega⟩
            · have y1 := j3 k e
              have y2 := z4 k e
              exact ⟨by omega, by omega⟩
        have HP := hid_of' (And.intro hpr (bgo HB3.out.1 hb5))
        clear hpr hb4 hb5 r4 z1 z2 z3 z4 z5 z6 z7 z8 k1 k2 k3 j1 j2 j3 H1 H2 HRN HB3 hoo
        go_upto_region 10 with fail
        generalize w4.alloc (.cells #[.pointer (some ⟨B, 0, none⟩), .pointer (some ⟨R, 0, none⟩)] 39) = W at HP ⊢
        obtain ⟨P, hP⟩ : ∃ P, w4.heap.size = P := ⟨_, rfl⟩
        rw [hP] at HP ⊢
        clear hP
        have HS := hid_of' (same_ok HP.out.1)
        have HG12 := hid_of' (show 2 < w.heap.size from World.block_lt_of_cell? _ _ (HL.out.lb 12 (by decide)))
        go_upto_region 12 with (go_at_call 11; refine HS.out.mono ?_; rintro e w5 ⟨rfl, hb5⟩; clear HS)
        have HPr : Hid (LpQ w P B R w5) := LpQ.later ⟨_, _, _, HP.out.1, HP.out.2⟩ hb5
        clear HP hb5
        go_wp2
        go_loopw [12] (fun i wr => ∃ k : Nat, i = .int .i64 (k : Int) ∧ k ≤ os.length ∧ k ≤ 250 ∧ LpQ w P B R wr) (fun i _ => os.length - (intOf i).toNat)
        case atStart => exact ⟨0, rfl, by omega, by omega, HPr.out⟩
        case round =>
          rename World => wr
          obtain ⟨k, rfl, hk, hk2, vb1, vr1, g1, hpr, hlow⟩ := hrel
          by_cases hkl : k < os.length
          · have hki : (k : Int) < (os.length : Int) := by omega
            by_cases hk250 : k < 250
            · have hkj : (k : Int) < 250 := by omega
              obtain ⟨gu, ou, op, hua, hOk, hCs⟩ : ∃ gu ou op, a9 = some ⟨gu, ou, none⟩ ∧ Opb.Ok w op ∧ CsIn gu (ou + k * 4) (ocb op) w := by
                rcases HO.out with ⟨e, _⟩ | ⟨gu, ou, c, e, h⟩
                · rw [e] at hkl; simp at hkl
                · cases e
                  exact ⟨gu, ou, os[k], rfl, (h k _ (List.getElem?_eq_getElem hkl)).1, (h k _ (List.getElem?_eq_getElem hkl)).2⟩
              subst hua
              have hin := hCs.later hlow
              have HD := hid_of' (does_any (fun x hx => HL.out.below (hlow.trans hx)) hpr (hOk.low hlow) HG12.out (fun hne j hj => hOk.raw.lt hne j hj))
              have HLo := hid_of' hlow
              clear hpr hlow hOk hCs
              go_upto_region 14 with (first | (refine wpL_loadOb (q := op) rfl _ rfl rfl hin ?_) | (go_at_call 9; refine HD.out.mono ?_; rintro e w6 ⟨rfl, vb2, vr2, g2, p6, hb6⟩; clear HD))
              have HZ := hid_of' (And.intro p6 (HLo.out.trans hb6))
              clear p6 hb6
              go_wp2
              go_roundw
              case rel => exact ⟨k + 1, by go_num, by omega, by omega, _, _, _, HZ.out.1, HZ.out.2⟩
              case measure => simp [intOf]; omega
            · have hkj : ¬ (k : Int) < 250 := by omega
              have HS := hid_of' (same_ok hpr)
              go_wp2_with (first | (go_at_call 11; refine HS.out.mono ?_; rintro e w6 ⟨rfl, hb5⟩; clear HS) | (go_at_call 8; refine (wakes10_ok _).mono ?_; rintro e w7 ⟨rfl, hb6⟩))
              go_ret
              exact ⟨rfl, bgo (bgo hlow hb5) hb6⟩
          · have hki : ¬ (k : Int) < (os.length : Int) := by omega
            have HS := hid_of' (same_ok hpr)
            go_wp2_with (first | (go_at_call 11; refine HS.out.mono ?_; rintro e w6 ⟨rfl, hb5⟩; clear HS) | (go_at_call 8; refine (wakes10_ok _).mono ?_; rintro e w7 ⟨rfl, hb6⟩))
            go_ret
            exact ⟨rfl, bgo (bgo hlow hb5) hb6⟩
      · exact absurd hoo hno
    · rcases H2.out.2.1 with ⟨hno, _⟩ | ⟨_, rfl⟩
      · exact absurd hno hoo
      go_wp2_with (first | (refine wpL_loadNo rfl _ rfl rfl HRN.out rfl ?_) | (go_at_call 7; refine HRf.out.mono ?_; rintro e w4 ⟨rfl, hb4⟩; clear HRf) | (go_at_call 8; refine (wakes10_ok _).mono ?_; rintro e w5 ⟨rfl, hb5⟩))
      go_ret
      exact ⟨rfl, bgo (bgo HB3.out.1 hb4) hb5⟩
  · have h60i : (60 : Int) < (l.length : Int) := by omega
    have h60c : (60 : Int) ≤ (c8 : Int) := by omega
    have ht := hq.take (n := 60) (by omega)
    have hl60 : (l.take 60).length = 60 := by rw [List.length_take]; omega
    obtain ⟨l9, hl9⟩ : ∃ l9, l.take 60 = l9 := ⟨_, rfl⟩
    rw [hl9] at ht hl60
    have HL60 := hid_of' hl60
    have hq0 : SlQ w (.slice a8 l9.length c8) l9 := by rw [hl60]; exact ht
    clear ht hl60 hq hl9
    go_upto_region 3 with fail
    rw [show (60 : Nat) = l9.length from HL60.out.symm]
    clear h60i h60c h60 hcap HL60
    obtain ⟨oo, hA, hB⟩ := loads_both L hq0 m
    have HL := hid_of' L
    have HA := hid_of' hA
    have HB := hid_of' hB
    clear L hA hB hq0
    go_upto_region 4 with (go_at_call 12; refine HA.out.mono ?_; rintro e w1 ⟨⟨u, ev, rfl, e1, u1⟩, b1⟩; clear HA)
    have HS := hid_of' (HB.out w1 b1)
    have H1 := hid_of' (And.intro e1 (And.intro u1 b1))
    clear HB e1 u1 b1
    go_upto_region 5 with (first | (go_at_call 13; refine HS.out.mono ?_; rintro e w2 ⟨⟨u', nv, rfl, e2, u2⟩, b2⟩; clear HS; obtain ⟨z0, z1, z2, z3, z4, z5, z6, rfl⟩ := e2.form; have H2 := hid_of' (And.intro e2 (And.intro u2 b2)); clear e2 u2 b2; unfold nov) | (refine wpL_storeNo rfl _ _ rfl rfl (code := z0) (a := z1) (n := z2) (c := z3) (a' := z4) (n' := z5) (c' := z6) rfl (row_new w2 _ _) ?_))
    have rN := (row_new w2 #[.int .i64 0, .slice none 0 0, .slice none 0 0] 32).put (nov z0 z1 z2 z3 z4 z5 z6)
    have hb3 := below_row (below_one w2 (.cells #[.int .i64 0, .slice none 0 0, .slice none 0 0] 32)) (Nat.le_refl _) (nov z0 z1 z2 z3 z4 z5 z6)
    generalize (w2.alloc (.cells #[.int .i64 0, .slice none 0 0, .slice none 0 0] 32)).setRow w2.heap.size (nov z0 z1 z2 z3 z4 z5 z6) = w3 at rN hb3 ⊢
    have hb03 := bgo (bgo H1.out.2.2 H2.out.2.2) hb3
    have HRf := hid_of' (refused_is (HL.out.below hb03) (H1.out.1.later (bgo H2.out.2.2 hb3)) (H2.out.1.later hb3))
    have HB3 := hid_of' (And.intro hb03 (And.intro (bgo H2.out.2.2 hb3) hb3))
    have HRN := hid_of' rN
    clear rN hb3 hb03
    rcases H1.out.2.1 with ⟨hoo, B, vb, rfl, k1, k2, k3⟩ | ⟨hoo, rfl⟩
    · rcases H2.out.2.1 with ⟨_, R, vr, rfl, j1, j2, j3⟩ | ⟨hno, _⟩
      · have z1 := k2.lies.lt
        have z2 := j2.lies.lt
        have z3 := k2.row.lt
        have z4 := j2.row.lt
        have z5 := H1.out.2.2.size
        have z6 := H2.out.2.2.size
        have z7 := HB3.out.2.2.size
        go_upto_region 9 with (first | (refine wpL_loadNo rfl _ rfl rfl HRN.out rfl ?_) | (go_at_call 7; refine HRf.out.mono ?_; rintro e w4 ⟨rfl, hb4⟩; clear HRf))
        have z8 := hb4.size
        have r4 := row_new w4 #[.pointer (some ⟨B, 0, none⟩), .pointer (some ⟨R, 0, none⟩)] 39
        have hb5 := bgo hb4 (below_one w4 (.cells #[.pointer (some ⟨B, 0, none⟩), .pointer (some ⟨R, 0, none⟩)] 39))
        have hpr : PrAt w.heap.size w4.heap.size B R vb vr (ldG m l9) (ldG m l9) (w4.alloc (.cells #[.pointer (some ⟨B, 0, none⟩), .pointer (some ⟨R, 0, none⟩)] 39)) := by
          refine ⟨r4, ((k2.later HB3.out.2.1).later hb5).mono (fun _ _ _ => trivial), ((j2.later HB3.out.2.2).later hb5).mono (fun _ _ _ => trivial), ?_, ?_, by omega⟩
          · rintro k (e | e)
            · exact ⟨by omega, by omega, by rintro (q | q) <;> first | omega | (have := j3 k q; omega)⟩
            · have y1 := k3 k e
              have y2 := z3 k e
              exact ⟨by omega, by omega, by rintro (q | q) <;> first | omega | (have := j3 k q; omega)⟩
          · rintro k (e | e)
            · exact ⟨by omega, by omega⟩
            · have y1 := j3 k e
              have y2 := z4 k e
              exact ⟨by omega, by omega⟩
        have HP := hid_of' (And.intro hpr (bgo HB3.out.1 hb5))
        clear hpr hb4 hb5 r4 z1 z2 z3 z4 z5 z6 z7 z8 k1 k2 k3 j1 j2 j3 H1 H2 HRN HB3 hoo
        go_upto_region 10 with fail
        generalize w4.alloc (.cells #[.pointer (some ⟨B, 0, none⟩), .pointer (some ⟨R, 0, none⟩)] 39) = W at HP ⊢
        obtain ⟨P, hP⟩ : ∃ P, w4.heap.size = P := ⟨_, rfl⟩
        rw [hP] at HP ⊢
        clear hP
        have HS := hid_of' (same_ok HP.out.1)
        have HG12 := hid_of' (show 2 < w.heap.size from World.block_lt_of_cell? _ _ (HL.out.lb 12 (by decide)))
        go_upto_region 12 with (go_at_call 11; refine HS.out.mono ?_; rintro e w5 ⟨rfl, hb5⟩; clear HS)
        have HPr : Hid (LpQ w P B R w5) := LpQ.later ⟨_, _, _, HP.out.1, HP.out.2⟩ hb5
        clear HP hb5
        go_wp2
        go_loopw [12] (fun i wr => ∃ k : Nat, i = .int .i64 (k : Int) ∧ k ≤ os.length ∧ k ≤ 250 ∧ LpQ w P B R wr) (fun i _ => os.length - (intOf i).toNat)
        case atStart => exact ⟨0, rfl, by omega, by omega, HPr.out⟩
        case round =>
          rename World => wr
          obtain ⟨k, rfl, hk, hk2, vb1, vr1, g1, hpr, hlow⟩ := hrel
          by_cases hkl : k < os.length
          · have hki : (k : Int) < (os.length : Int) := by omega
            by_cases hk250 : k < 250
            · have hkj : (k : Int) < 250 := by omega
              obtain ⟨gu, ou, op, hua, hOk, hCs⟩ : ∃ gu ou op, a9 = some ⟨gu, ou, none⟩ ∧ Opb.Ok w op ∧ CsIn gu (ou + k * 4) (ocb op) w := by
                rcases HO.out with ⟨e, _⟩ | ⟨gu, ou, c, e, h⟩
                · rw [e] at hkl; simp at hkl
                · cases e
                  exact ⟨gu, ou, os[k], rfl, (h k _ (List.getElem?_eq_getElem hkl)).1, (h k _ (List.getElem?_eq_getElem hkl)).2⟩
              subst hua
              have hin := hCs.later hlow
              have HD := hid_of' (does_any (fun x hx => HL.out.below (hlow.trans hx)) hpr (hOk.low hlow) HG12.out (fun hne j hj => hOk.raw.lt hne j hj))
              have HLo := hid_of' hlow
              clear hpr hlow hOk hCs
              go_upto_region 14 with (first | (refine wpL_loadOb (q := op) rfl _ rfl rfl hin ?_) | (go_at_call 9; refine HD.out.mono ?_; rintro e w6 ⟨rfl, vb2, vr2, g2, p6, hb6⟩; clear HD))
              have HZ := hid_of' (And.intro p6 (HLo.out.trans hb6))
              clear p6 hb6
              go_wp2
              go_roundw
              case rel => exact ⟨k + 1, by go_num, by omega, by omega, _, _, _, HZ.out.1, HZ.out.2⟩
              case measure => simp [intOf]; omega
            · have hkj : ¬ (k : Int) < 250 := by omega
              have HS := hid_of' (same_ok hpr)
              go_wp2_with (first | (go_at_call 11; refine HS.out.mono ?_; rintro e w6 ⟨rfl, hb5⟩; clear HS) | (go_at_call 8; refine (wakes10_ok _).mono ?_; rintro e w7 ⟨rfl, hb6⟩))
              go_ret
              exact ⟨rfl, bgo (bgo hlow hb5) hb6⟩
          · have hki : ¬ (k : Int) < (os.length : Int) := by omega
            have HS := hid_of' (same_ok hpr)
            go_wp2_with (first | (go_at_call 11; refine HS.out.mono ?_; rintro e w6 ⟨rfl, hb5⟩; clear HS) | (go_at_call 8; refine (wakes10_ok _).mono ?_; rintro e w7 ⟨rfl, hb6⟩))
            go_ret
            exact ⟨rfl, bgo (bgo hlow hb5) hb6⟩
      · exact absurd hoo hno
    · rcases H2.out.2.1 with ⟨hno, _⟩ | ⟨_, rfl⟩
      · exact absurd hno hoo
      go_wp2_with (first | (refine wpL_loadNo rfl _ rfl rfl HRN.out rfl ?_) | (go_at_call 7; refine HRf.out.mono ?_; rintro e w4 ⟨rfl, hb4⟩; clear HRf) | (go_at_call 8; refine (wakes10_ok _).mono ?_; rintro e w5 ⟨rfl, hb5⟩))
      go_ret
      exact ⟨rfl, bgo (bgo HB3.out.1 hb4) hb5⟩
end Go.Proofs.YtdojjhhnciaegaaDoor
