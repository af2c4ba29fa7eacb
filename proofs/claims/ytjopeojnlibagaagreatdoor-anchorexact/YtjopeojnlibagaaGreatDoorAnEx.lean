
/-
  barrowlaw13.AnchorExact.
-/
import Derived.Test.YtjopeojnlibagaaGreatDoorAnA
import Derived.Deep.CutRange
namespace Go.Proofs.YtjopeojnlibagaaGreatDoor
open Go.RowKit Go.Extern.Stop Go.Stop Go.Extern
set_option maxRecDepth 100000

set_option maxHeartbeats 8000000 in
theorem anchorExact_all {ad : Nat → Addr} {w : World} {u ug ua : Value} {l : List El} {gs : List Int} {zs : List Anx} (L : Laid ad w) (hu : SlE w u l) (hlm : l.length ≤ 9223372036854775807) (hin : ∀ e ∈ l, e.id.In) (hg : SlG w ug gs) (ha : SlX w ua zs) (hai : ∀ x ∈ zs, x.In) :
    Calls Tryz.prog 3 #[u, ug, ua] w fun r w' => r = .returned (.bool true) ∧ Below w.heap.size w w' := by
  obtain ⟨a', c', rfl⟩ := hu.form
  obtain ⟨ag, cg, rfl⟩ := hg.form
  obtain ⟨aa, ca, rfl⟩ := ha.form
  have HB := hid_of' (begun13 hu hlm hin)
  have HL := hid_of' L
  clear hu L hin hlm
  unfold pv at HB
  go_enter Tryz.func3, Tryz.ntmps3
  go_upto_region 2 with (go_at_call 8; refine HB.out.mono ?_; rintro r w1 ⟨B, mb, v, xs, hBs, rfl, hbg, hxs, hb1⟩; clear HB)
  clear hxs hBs
  obtain ⟨base, hO, _⟩ := hbg.own
  have hM := hid_of' hbg.mrk
  have hap := hbg.apart
  have hlen := hbg.len
  replace HL := hid_of' (HL.out.below hb1)
  have HX : Hid (∀ p : Int, 0 ≤ p → p ≤ liveL xs → ∃ f a b c, AnOf xs p f a b c) := fun p h0 h1 => anOf_ex h0 h1
  have HA : Hid (∀ (x : World) (p : Int) (f : Bool) (a b c : Int), Below w1.heap.size w1 x → 0 ≤ p → p ≤ liveL xs → AnOf xs p f a b c → _) := fun x p f a b c hx h0 h1 hA => anchorAt_ok (hM.out.later hx).mv p (by omega) h0 h1 hA
  have HAo : Hid (∀ (x : World) (p : Int), Below w1.heap.size w1 x → p < 0 ∨ liveL xs < p → _) := fun x p hx ho => anchorAt_out p (hM.out.later hx).mv (HL.out.below hx) ho
  have HRa : Hid (∀ (x : World) (p : Int) (f : Bool) (a b c : Int), Below w1.heap.size w1 x → 0 ≤ p → p ≤ liveL xs → AnOf xs p f a b c → _) := fun x p f a b c hx h0 h1 hA => refAt13_ok (hO.later hx) (by omega) p h0 h1 hA
  have HRo : Hid (∀ (x : World) (p : Int), Below w1.heap.size w1 x → p < 0 ∨ liveL xs < p → _) := fun x p hx ho => refAt13_out (hO.later hx) (by omega) p ho
  have HW : Hid (∀ (x : World) (f : Bool) (a b c q : Int) (ok : Bool), Below w1.heap.size w1 x → (⟨a, b, c⟩ : Idn).In → WhOf xs f a b c q ok → _) := fun x f a b c q ok hx hi hW => where_any (HL.out.below hx) (hM.out.later hx) hi hW
  have HRw : Hid (∀ (x : World) (f : Bool) (a b c q : Int) (ok : Bool), Below w1.heap.size w1 x → WhOf xs f a b c q ok → _) := fun x f a b c q ok hx hW => refWhere13 (hO.later hx) (by omega) hap hW
  have HRb : Hid (∀ (x : World) (f F : Bool) (a b c q A B C : Int) (ok : Bool), Below w1.heap.size w1 x → (⟨a, b, c⟩ : Idn).In → WhOf xs f a b c q ok → (ok = true → AnOf xs q F A B C) → (ok = false → F = false ∧ A = 0 ∧ B = 0 ∧ C = 0) → _) := fun x f F a b c q A B C ok hx hi hW h1 h2 => rebase_any (HL.out.below hx) (hM.out.later hx) hi hW h1 h2
  have HRr : Hid (∀ (x : World) (f F : Bool) (a b c q A B C : Int) (ok : Bool), Below w1.heap.size w1 x → WhOf xs f a b c q ok → (ok = true → AnOf xs q F A B C) → (ok = false → F = false ∧ A = 0 ∧ B = 0 ∧ C = 0) → _) := fun x f F a b c q A B C ok hx hW h1 h2 => refRebase13 (hO.later hx) (by omega) hap hW h1 h2
  have HEl : Hid (∀ (x : World), Below w1.heap.size w1 x → _) := fun x hx => elements_ok (hM.out.later hx).mv (by omega)
  have HQ : Hid (∀ (x : World) (b2 : Nat) (v2 : Value), Below w1.heap.size w1 x → OwnE b2 v2 xs x → _) := fun x b2 v2 hx h2 => elements_eq h2.sl (hO.later hx).sl (by omega)
  have HK : Hid (∀ x, Below w1.heap.size w1 x → _) := fun x hx => wakes13 (HL.out.below hx)
  have HRn := hid_of' (fun x => refused_none none none 0 0 0 0 x)
  unfold nov at HRn
  have HRs : Hid (∀ (x : World) (b g g' : Nat) (p : Int), Below w1.heap.size w1 x → FaultAt ad b bAnchor bAt p 1 x → CsIn g' 0 #[.string bAnchor, .string bAt, .int .i64 p] x → CsIn g 0 #[.int .i64 2] x → _) := fun x b g g' p hx h1 h2 h3 => refused_some (HL.out.below hx) h1 (by decide) h2 h3
  rw [show (((1 : Nat) : Int) + 1) = 2 from rfl] at HRs
  obtain ⟨a1, c1, rfl⟩ := hO.form
  replace hg := hg.later hb1
  replace ha := ha.later hb1
  clear hbg hM hO hap
  generalize xs.length = M at *
  unfold pv at HA HAo HW HRb HEl
  unfold fvA at HAo
  go_wp2
  go_loopw [9] (fun iv wr => ∃ k : Nat, iv = .int .i64 (k : Int) ∧ k ≤ gs.length ∧ k ≤ 60 ∧ Below w1.heap.size w1 wr) (fun iv _ => 60 - (intOf iv).toNat)
  case atStart => exact ⟨0, rfl, Nat.zero_le _, Nat.zero_le _, Below.refl _ _⟩
  case round =>
    obtain ⟨k, rfl, hk, hk6, hB⟩ := hrel
    by_cases hlt : k < gs.length ∧ k < 60
    · obtain ⟨hlt, hlt6⟩ := hlt
      have hki : (k : Int) < (gs.length : Int) := by omega
      have hk6i : (k : Int) < 60 := by omega
      obtain ⟨p, hp⟩ : ∃ p, gs[k]? = some p := ⟨_, List.getElem?_eq_getElem hlt⟩
      rcases hg with ⟨h0, _⟩ | ⟨g, o_, cc, hvv, hgl, hcell⟩
      · exfalso; subst h0; simp at hp
      simp only [Value.slice.injEq] at hvv
      obtain ⟨rfl, hlen9, rfl⟩ := hvv
      clear hlen9
      have HC : Hid (∀ x, Below w1.heap.size w1 x → x.cell? ⟨g, o_ + k, none⟩ = some (.int .i64 p)) := fun x hx => by rw [hx.cell (p := ⟨g, o_ + k, none⟩) hgl]; exact hcell k p hp
      have cc0 := HC.out _ hB
      clear hcell hp hgl
      by_cases hr : 0 ≤ p ∧ p ≤ liveL xs
      · obtain ⟨f, a, b, c, hA⟩ := HX.out p hr.1 hr.2
        replace hA := hid_of' hA
        replace hr := hid_of' hr
        have hq := eqA_same f a b c
        go_upto_region 8 with (first | (go_at_call 9; refine (HA.out _ _ _ _ _ _ hB hr.out.1 hr.out.2 hA.out).mono ?_; rintro r w3 ⟨rfl, hb3⟩) | (refine wpL_storeA rfl _ _ rfl rfl rfl (row_new w3 _ _) ?_))
        have r3 := rA w3 (anc f a b c)
        have hB5 := zA w3 (anc f a b c)
        generalize (w3.alloc (.cells #[.bool false, .int .i64 0, .int .i64 0, .int .i64 0] 31)).setRow w3.heap.size (anc f a b c) = W5 at r3 hB5 ⊢
        have hB6 := bgo hB (bgo hb3 hB5)
        have cc1 := HC.out _ hB6
        go_upto_region 9 with (first | (go_at_call 10; refine (HRa.out _ _ _ _ _ _ hB6 hr.out.1 hr.out.2 hA.out).mono ?_; rintro r w7 ⟨rfl, hb7⟩) | (refine wpL_storeA rfl _ _ rfl rfl rfl ((row_new w7 _ _).later (below_one _ _)) ?_) | (refine wpL_storeNo rfl _ _ rfl rfl rfl (RowAt.other (row_new2 w7 _ _ _) _ _ (by omega)) ?_))
        change Code.wp _ _ _ _ (twoW w7 (anc f a b c) (nov 0 none 0 0 none 0 0))
        have ra := twoW_a w7 (anc f a b c) (nov 0 none 0 0 none 0 0)
        have rn := twoW_n w7 (anc f a b c) (nov 0 none 0 0 none 0 0)
        have hB8 := twoW_b w7 (anc f a b c) (nov 0 none 0 0 none 0 0)
        generalize twoW w7 (anc f a b c) (nov 0 none 0 0 none 0 0) = W8 at ra rn hB8 ⊢
        have r38 := r3.later (bgo hb7 hB8)
        have hB9 := bgo hB6 (bgo hb7 hB8)
        generalize w7.heap.size + 1 = b8 at rn ⊢
        generalize w7.heap.size = a8 at ra ⊢
        have n0 := rn.cell 0
        have n1 := rn.cell 1
        have n2 := rn.cell 2
        simp only [nov, List.getElem?_toArray, List.getElem?_cons_zero, List.getElem?_cons_succ] at n0 n1 n2
        go_wp2_with (first | (refine wpL_loadA rfl _ rfl rfl r38.in ?_) | (refine wpL_loadA rfl _ rfl rfl ra.in ?_) | (refine opw_loadNo _ rfl rfl rn rfl ?_) | (go_at_call 11; (with_reducible refine (HRn.out _).mono ?_); rintro r w9 ⟨rfl, hb9⟩))
        go_roundw
        case rel => exact ⟨k + 1, by go_num, by omega, by omega, bgo hB9 hb9⟩
        case measure => simp [intOf]; omega
      · have ho : Hid (p < 0 ∨ liveL xs < p) := by show _ ∨ _; omega
        clear hr
        have hq := eqA_same false 0 0 0
        go_upto_region 8 with (first | (go_at_call 9; refine (HAo.out _ _ hB ho.out).mono ?_; rintro r w3 ⟨gf, rfl, hf3, hb3⟩) | (refine wpL_storeA rfl _ _ rfl rfl rfl (row_new w3 _ _) ?_))
        have r3 := rA w3 (anc false 0 0 0)
        have hB5 := zA w3 (anc false 0 0 0)
        generalize (w3.alloc (.cells #[.bool false, .int .i64 0, .int .i64 0, .int .i64 0] 31)).setRow w3.heap.size (anc false 0 0 0) = W5 at r3 hB5 ⊢
        have hB6 := bgo hB (bgo hb3 hB5)
        have cc1 := HC.out _ hB6
        go_upto_region 9 with (first | (go_at_call 10; refine (HRo.out _ _ hB6 ho.out).mono ?_; rintro r w7 ⟨g2, g3, rfl, k3, k4, hb7⟩) | (refine wpL_storeA rfl _ _ rfl rfl rfl ((row_new w7 _ _).later (below_one _ _)) ?_) | (refine wpL_storeNo rfl _ _ rfl rfl rfl (RowAt.other (row_new2 w7 _ _ _) _ _ (by omega)) ?_))
        change Code.wp _ _ _ _ (twoW w7 (anc false 0 0 0) (nov 2 (some ⟨g3, 0, none⟩) 1 1 (some ⟨g2, 0, none⟩) 1 1))
        have ra := twoW_a w7 (anc false 0 0 0) (nov 2 (some ⟨g3, 0, none⟩) 1 1 (some ⟨g2, 0, none⟩) 1 1)
        have rn := twoW_n w7 (anc false 0 0 0) (nov 2 (some ⟨g3, 0, none⟩) 1 1 (some ⟨g2, 0, none⟩) 1 1)
        have hB8 := twoW_b w7 (anc false 0 0 0) (nov 2 (some ⟨g3, 0, none⟩) 1 1 (some ⟨g2, 0, none⟩) 1 1)
        generalize twoW w7 (anc false 0 0 0) (nov 2 (some ⟨g3, 0, none⟩) 1 1 (some ⟨g2, 0, none⟩) 1 1) = W8 at ra rn hB8 ⊢
        have r38 := r3.later (bgo hb7 hB8)
        have hB9 := bgo hB6 (bgo hb7 hB8)
        generalize w7.heap.size + 1 = b8 at rn ⊢
        generalize w7.heap.size = a8 at ra ⊢
        have n0 := rn.cell 0
        have n1 := rn.cell 1
        have n2 := rn.cell 2
        simp only [nov, List.getElem?_toArray, List.getElem?_cons_zero, List.getElem?_cons_succ] at n0 n1 n2
        have hR := hid_of' (HRs.out _ _ _ _ _ hB9 (RowAt.later (RowAt.later hf3 hB5) (bgo hb7 hB8)) (k3.later hB8) (k4.later hB8))
        unfold nov at hR
        go_wp2_with (first | (refine wpL_loadA rfl _ rfl rfl r38.in ?_) | (refine wpL_loadA rfl _ rfl rfl ra.in ?_) | (refine opw_loadNo _ rfl rfl rn rfl ?_) | (go_at_call 11; (with_reducible refine hR.out.mono ?_); rintro r w9 ⟨rfl, hb9⟩))
        go_roundw
        case rel => exact ⟨k + 1, by go_num, by omega, by omega, bgo hB9 hb9⟩
        case measure => simp [intOf]; omega
    · have hex : ¬ (k : Int) < (gs.length : Int) ∨ ((k : Int) < (gs.length : Int) ∧ ¬ (k : Int) < 60) := by omega
      clear hlt
      go_upto_region 5 with fail
      go_cut [37] from 30 to 66 (fun s37 wx => s37 = .bool false ∧ wx = wr)
      case first =>
        rcases hex with h1 | ⟨h1, h2⟩
        · go_wp2
          go_meet
          case rel => exact ⟨rfl, rfl⟩
        · go_wp2
          go_meet
          case rel => exact ⟨rfl, rfl⟩
      case rest =>
        obtain ⟨rfl, rfl⟩ := hcut
        clear hex
        go_wp2
        go_loopw [14] (fun iv wr => ∃ k : Nat, iv = .int .i64 (k : Int) ∧ k ≤ zs.length ∧ k ≤ 60 ∧ Below w1.heap.size w1 wr) (fun iv _ => 60 - (intOf iv).toNat)
        case atStart => exact ⟨0, rfl, Nat.zero_le _, Nat.zero_le _, hB⟩
        case round =>
          clear hB hk hk6
          obtain ⟨k, rfl, hk, hk6, hB⟩ := hrel
          by_cases hlt : k < zs.length ∧ k < 60
          · obtain ⟨hlt, hlt6⟩ := hlt
            have hki : (k : Int) < (zs.length : Int) := by omega
            have hk6i : (k : Int) < 60 := by omega
            obtain ⟨z, hz⟩ : ∃ z, zs[k]? = some z := ⟨_, List.getElem?_eq_getElem hlt⟩
            rcases ha with ⟨h0, _⟩ | ⟨g, o_, cc, hvv, hcell⟩
            · exfalso; subst h0; simp at hz
            simp only [Value.slice.injEq] at hvv
            obtain ⟨rfl, hlen9, rfl⟩ := hvv
            clear hlen9
            have HC : Hid (CsIn g (o_ + k * 4) (anc z.f z.a z.b z.c) w1) := hcell k z hz
            have hzi : Hid ((⟨z.a, z.b, z.c⟩ : Idn).In) := hai z (List.mem_of_getElem? hz)
            obtain ⟨q, ok, hW⟩ := whOf_ex xs z.f z.a z.b z.c
            obtain ⟨F, A, B, C, h1, h2⟩ := rbOf_ex hW
            replace hW := hid_of' hW
            replace h1 := hid_of' h1
            replace h2 := hid_of' h2
            have hq := eqA_same F A B C
            have hqq : (q == q) = true := by simp
            have hoo : (ok == ok) = true := by simp
            generalize z.f = f at *
            generalize z.a = a at *
            generalize z.b = b at *
            generalize z.c = c at *
            clear hcell hz
            have cc0 := HC.out.later hB
            go_upto_region 15 with (first | (refine wpL_loadA rfl _ rfl rfl cc0 ?_) | (go_at_call 12; refine (HW.out _ _ _ _ _ _ _ hB hzi.out hW.out).mono ?_; rintro r w3 ⟨rfl, hb3⟩))
            have hB3 := bgo hB hb3
            have cc1 := HC.out.later hB3
            clear cc0
            go_upto_region 16 with (first | (refine wpL_loadA rfl _ rfl rfl cc1 ?_) | (go_at_call 13; refine (HRw.out _ _ _ _ _ _ _ hB3 hW.out).mono ?_; rintro r w4 ⟨rfl, hb4⟩))
            have hB4 := bgo hB3 hb4
            have cc2 := HC.out.later hB4
            clear cc1
            go_upto_region 17 with (first | (refine wpL_loadA rfl _ rfl rfl cc2 ?_) | (go_at_call 14; refine (HRb.out _ _ _ _ _ _ _ _ _ _ _ hB4 hzi.out hW.out h1.out h2.out).mono ?_; rintro r w5 ⟨rfl, hb5⟩) | (refine wpL_storeA rfl _ _ rfl rfl rfl (row_new w5 _ _) ?_))
            have r5 := rA w5 (anc F A B C)
            have hB6 := zA w5 (anc F A B C)
            generalize (w5.alloc (.cells #[.bool false, .int .i64 0, .int .i64 0, .int .i64 0] 31)).setRow w5.heap.size (anc F A B C) = W6 at r5 hB6 ⊢
            have hB7 := bgo hB4 (bgo hb5 hB6)
            have cc3 := HC.out.later hB7
            clear cc2
            go_upto_region 18 with (first | (refine wpL_loadA rfl _ rfl rfl cc3 ?_) | (go_at_call 15; refine (HRr.out _ _ _ _ _ _ _ _ _ _ _ hB7 hW.out h1.out h2.out).mono ?_; rintro r w8 ⟨rfl, hb8⟩) | (refine wpL_storeA rfl _ _ rfl rfl rfl (row_new w8 _ _) ?_))
            have r8 := rA w8 (anc F A B C)
            have hB9 := zA w8 (anc F A B C)
            generalize (w8.alloc (.cells #[.bool false, .int .i64 0, .int .i64 0, .int .i64 0] 31)).setRow w8.heap.size (anc F A B C) = W9 at r8 hB9 ⊢
            have r59 := r5.later (bgo hb8 hB9)
            have hBe := bgo hB7 (bgo hb8 hB9)
            clear cc3
            have x0 := r59.cell 0
            have x1 := r59.cell 1
            have x2 := r59.cell 2
            have x3 := r59.cell 3
            have y0 := r8.cell 0
            have y1 := r8.cell 1
            have y2 := r8.cell 2
            have y3 := r8.cell 3
            simp only [anc, List.getElem?_toArray, List.getElem?_cons_zero, List.getElem?_cons_succ] at x0 x1 x2 x3 y0 y1 y2 y3
            unfold anc at hq
            go_wp2
            go_roundw
            case rel => exact ⟨k + 1, by go_num, by omega, by omega, hBe⟩
            case measure => simp [intOf]; omega
          · have hex : ¬ (k : Int) < (zs.length : Int) ∨ ((k : Int) < (zs.length : Int) ∧ ¬ (k : Int) < 60) := by omega
            clear hlt
            go_upto_region 12 with fail
            go_cut [74] from 67 to 130 (fun s74 wx => s74 = .bool false ∧ wx = wr)
            case first =>
              rcases hex with h1 | ⟨h1, h2⟩
              · go_wp2
                go_meet
                case rel => exact ⟨rfl, rfl⟩
              · go_wp2
                go_meet
                case rel => exact ⟨rfl, rfl⟩
            case rest =>
              obtain ⟨rfl, rfl⟩ := hcut
              clear hex
              go_wp2_with (first | (go_at_call 17; refine (HEl.out _ hB).mono ?_; rintro r w2 ⟨v2, rfl, ho2, hb2⟩) | (go_at_call 16; refine (HQ.out _ _ _ (bgo hB hb2) ho2).mono ?_; rintro r w3 ⟨rfl, hb3⟩) | (go_at_call 18; refine (HK.out _ (bgo (bgo hB hb2) hb3)).mono ?_; rintro r w4 ⟨rfl, hb4⟩))
              go_ret
              exact ⟨rfl, bgo hb1 (bgo (bgo (bgo hB hb2) hb3) hb4)⟩
end Go.Proofs.YtjopeojnlibagaaGreatDoor
