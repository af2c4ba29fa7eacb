
/-
  barrowlaw14.UndoThere.
-/
import Derived.Test.YtgkbgojgpomcdaaDoorUt25
namespace Go.Proofs.YtgkbgojgpomcdaaDoor
open Go.RowKit Go.Extern.Stop Go.Stop Go.Extern
set_option maxRecDepth 100000

theorem nwL_small {α : Type} (us : List α) (u : α) (h : us.length < 64) : nwL us u = us ++ [u] := by
  unfold nwL
  rw [show us.length + 1 - 64 = 0 by omega, List.drop_zero]
theorem take_back {α : Type} {d : List α} {n : Nat} {l : α} (hn : d.length = n + 1) (hl : d[n]? = some l) : d.take n ++ [l] = d := by
  have h := List.take_add_one (l := d) (i := n)
  rw [hl, ← hn, List.take_length] at h
  exact h.symm
theorem pure_ur {d u : List (List Xg)} {n : Nat} {l : List Xg} (hn : d.length = n + 1) (hl : d[n]? = some l) (ht : d.length + u.length ≤ 64) : (nwL u l).length = u.length + 1 ∧ (nwL u l)[u.length]? = some l ∧ nwL (d.take n) l = d ∧ (nwL u l).take u.length = u := by
  have h1 : nwL u l = u ++ [l] := nwL_small u l (by omega)
  have h2 : (d.take n).length < 64 := by rw [List.length_take]; omega
  refine ⟨by rw [h1]; simp, by rw [h1]; simp, ?_, by rw [h1]; simp⟩
  rw [nwL_small _ _ h2]
  exact take_back hn hl
theorem pure_ru {d u : List (List Xg)} {n : Nat} {l : List Xg} (hn : u.length = n + 1) (hl : u[n]? = some l) (ht : d.length + u.length ≤ 64) : (nwL d l).length = d.length + 1 ∧ (nwL d l)[d.length]? = some l ∧ (nwL d l).take d.length = d ∧ nwL (u.take n) l = u := by
  have h1 : nwL d l = d ++ [l] := nwL_small d l (by omega)
  have h2 : (u.take n).length < 64 := by rw [List.length_take]; omega
  refine ⟨by rw [h1]; simp, by rw [h1]; simp, by rw [h1]; simp, ?_⟩
  rw [nwL_small _ _ h2]
  exact take_back hn hl
set_option maxHeartbeats 8000000 in
theorem undoThere_all {ad : Nat → Addr} {W : World} {v : Value} {l : List Uop} (L : Laid ad W) (h : SlU W v l ∧ ∀ x ∈ l, x.Ok W) :
    Calls Tryd.prog 6 #[v] W fun e w' => e = .returned (.bool true) ∧ Below W.heap.size W w' := by
  obtain ⟨a, c, rfl⟩ := h.1.form
  have H := hid_of' h
  have HL := hid_of' L
  have HN := hid_of' (new_ok W)
  have HW := hid_of' wakes14_ok
  clear h L
  go_enter Tryd.func6, Tryd.ntmps6
  go_upto_region 6 with (go_at_call 9; refine HN.out.mono ?_; rintro e w1 ⟨rfl, hg1, hb1⟩; clear HN; have H1 := hid_of' (And.intro hg1 hb1); clear hg1 hb1)
  have hP := pair_new H1.out.1 H1.out.2
  have hb3 : Below W.heap.size W ((w1.alloc (.cells #[.slice none 0 0, .slice none 0 0] 29)).alloc (.cells #[.pointer (some ⟨W.heap.size, 0, none⟩), .pointer (some ⟨w1.heap.size, 0, none⟩)] 31)) := bgo H1.out.2 (bgo (below_one w1 _) (below_one _ _))
  have HP := hid_of' (And.intro hP hb3)
  clear hP hb3
  generalize hBs : W.heap.size = Bs at HP ⊢
  generalize hBr : w1.heap.size = Br at HP ⊢
  generalize hPp : Br + 1 = P at HP ⊢
  generalize (w1.alloc (.cells #[.slice none 0 0, .slice none 0 0] 29)).alloc (.cells #[.pointer (some ⟨Bs, 0, none⟩), .pointer (some ⟨Br, 0, none⟩)] 31) = W3 at HP ⊢
  have HBs := hid_of' hBs
  clear hBr hPp H1 hBs
  go_loopw [5] (fun iv wr => ∃ (i : Nat), iv = .int .i64 (i : Int) ∧ i ≤ 200 ∧ (∃ d u vd vu vd' vu' F F', PrAt Bs P Bs Br d u vd vu vd' vu' F F' wr ∧ d.length + u.length ≤ 64) ∧ Below Bs W wr) (fun iv _ => 200 - (intOf iv).toNat)
  case atStart => exact ⟨0, rfl, by omega, ⟨_, _, _, _, _, _, _, _, HP.out.1, by simp⟩, HP.out.2⟩
  case round =>
    obtain ⟨i, rfl, hi, ⟨d, u, vd, vu, vd', vu', F, F', hP, htot⟩, hB⟩ := hrel
    by_cases hil : i < l.length ∧ i < 200
    · obtain ⟨h1, h2⟩ := hil
      have hi1 : (i : Int) < (l.length : Int) := by omega
      have hi2 : (i : Int) < 200 := by omega
      obtain ⟨o, ho⟩ : ∃ o, l[i]? = some o := ⟨_, List.getElem?_eq_getElem h1⟩
      obtain ⟨_, g, o_, rfl, hc⟩ := H.out.1.some' (by rintro rfl; simp at h1)
      have hok := H.out.2 o (List.mem_of_getElem? ho)
      have hBw : Below W.heap.size W wr := HBs.out.symm ▸ hB
      have hcs := (hc i o ho).later hBw
      have HDo := hid_of' (does_all hP (ad := ad) (fun x hx => HL.out.below (hBw.trans (HBs.out ▸ hx))) hok (fun x hx => hok.sl.later (hBw.trans (HBs.out ▸ hx))))
      have HB := hid_of' hB
      clear hc ho hok hBw hP hB
      have HTt := hid_of' htot
      clear htot
      go_wp2_with (first | (refine wpL_loadU rfl _ rfl rfl hcs ?_) | (go_at_call 10; (with_reducible refine HDo.out.mono ?_); rintro e w4 ⟨rfl, ⟨d4, u4, vd4, vu4, vd5, vu5, F4, F5, hP4, ht4⟩, hb4⟩; clear HDo; have H4 := hid_of' (And.intro hP4 (And.intro (ht4 HTt.out) (HB.out.trans hb4))); clear hP4 ht4 hb4))
      go_roundw
      case rel => exact ⟨i + 1, by go_num, by omega, ⟨_, _, _, _, _, _, _, _, H4.out.1, H4.out.2.1⟩, H4.out.2.2⟩
      case measure => simp [intOf]; omega
    · by_cases h1 : i < l.length
      · have hi1 : (i : Int) < (l.length : Int) := by omega
        have hi2 : ¬ (i : Int) < 200 := by omega
        have HE := hid_of' (edits_ok hP.s)
        have hfd : ∀ l ∈ d, l.length ≤ 2199023255552 := fun l hl => (hP.s.rd.fits l hl).2
        have hfu : ∀ l ∈ u, l.length ≤ 2199023255552 := fun l hl => (hP.s.ru.fits l hl).2
        have HF := hid_of' (And.intro hfd (And.intro hfu (And.intro (show d.length ≤ 100000 by omega) (show u.length ≤ 100000 by omega))))
        have HTot := hid_of' htot
        have H0 := hid_of' (And.intro hP hB)
        have HN0 : Hid (Bs ≤ wr.heap.size) := hP.size
        have HLa : Hid (∀ x, Below Bs W x → Laid ad x) := fun x hx => HL.out.below (HBs.out.symm ▸ hx)
        clear hil hP hB htot hfd hfu
        go_upto_region 11 with (go_at_call 24; (with_reducible refine HE.out.mono ?_); rintro e w2 ⟨va, vb, rfl, hx, hy, hb2⟩; clear HE; have H2 := hid_of' (And.intro hx (And.intro hy hb2)); clear hx hy hb2)
        have HST0 : Hid (SkAt 68 Bs vd vu F d u w2 ∧ ERow (fun k => wr.heap.size ≤ k ∧ k < w2.heap.size) va d w2 ∧ ERow (fun k => wr.heap.size ≤ k ∧ k < w2.heap.size) vb u w2 ∧ (∀ k, F k → ¬ (wr.heap.size ≤ k ∧ k < w2.heap.size)) ∧ (∀ k, F k → Bs ≤ k) ∧ Below Bs W w2 ∧ w2.heap.size ≤ w2.heap.size) := by
          obtain ⟨hx, hy, hb2⟩ := H2.out
          obtain ⟨hP, hB⟩ := H0.out
          exact ⟨hP.s.later hb2, hx.row.mono (fun k hk hq => ⟨hk, hq⟩), hy.row.mono (fun k hk hq => ⟨hk, hq⟩), fun k hk q => by have := hP.s.lt k hk; omega, hP.nF, hB.trans (hb2.mono hP.size), Nat.le_refl _⟩
        have HOw : Hid ((∀ k, va.ownBlock = some k → wr.heap.size ≤ k ∧ k < w2.heap.size) ∧ (∀ k, vb.ownBlock = some k → wr.heap.size ≤ k ∧ k < w2.heap.size)) := ⟨fun k hk => ⟨H2.out.1.own k hk, H2.out.1.row.lt k hk⟩, fun k hk => ⟨H2.out.2.1.own k hk, H2.out.2.1.row.lt k hk⟩⟩
        obtain ⟨aa, ca, hva, _⟩ := H2.out.1.row.form
        obtain ⟨ab, cb, hvb, _⟩ := H2.out.2.1.row.form
        generalize d.length = nd at hva
        generalize u.length = nu at hvb
        generalize hM : wr.heap.size = M at HST0 HOw HN0
        generalize hM2 : w2.heap.size = M2 at HST0 HOw
        have HM2 : Hid (M2 ≤ w2.heap.size) := by show _ ≤ _; omega
        clear H2 H0 hM hM2
        subst hva hvb
        go_upto_region 12 with fail
        go_loopw [8] (fun kv wq => ∃ (k : Nat), kv = .int .i64 (k : Int) ∧ k ≤ 2 ∧ (∃ vd vu F, SkAt 68 Bs vd vu F d u wq ∧ ERow (fun k => M ≤ k ∧ k < M2) (.slice aa nd ca) d wq ∧ ERow (fun k => M ≤ k ∧ k < M2) (.slice ab nu cb) u wq ∧ (∀ k, F k → ¬ (M ≤ k ∧ k < M2)) ∧ (∀ k, F k → Bs ≤ k) ∧ Below Bs W wq ∧ M2 ≤ wq.heap.size)) (fun kv _ => 2 - (intOf kv).toNat)
        case atStart => exact ⟨0, rfl, by decide, ⟨_, _, _, HST0.out.1, HST0.out.2.1, HST0.out.2.2.1, HST0.out.2.2.2.1, HST0.out.2.2.2.2.1, HST0.out.2.2.2.2.2.1, HM2.out⟩⟩
        case round =>
          obtain ⟨k, rfl, hk, vd, vu, F, hS, hA, hAb, hFA, hFN, hB, hw10⟩ := hrel
          match k, hk with
          | 0, _ =>
            by_cases he : d = []
            · skip
              have HU := hid_of' (undo_no (HLa.out wr hB).ln hS he)
              have HR := hid_of' (And.intro hS (And.intro hA (And.intro hAb (And.intro hFA (And.intro hFN (And.intro hB hw10))))))
              clear hS hA hAb hFA hFN hB hw10
              go_upto_region 25 with (go_at_call 25; (with_reducible refine HU.out.mono ?_); rintro e w6 ⟨v6, rfl, ⟨b6, rfl, hb, hk, hf⟩, hb6⟩; clear HU; have H6 := hid_of' hb6; clear hb hk hf hb6)
              have HST : Hid (SkAt 68 Bs vd vu F d u w6 ∧ ERow (fun k => M ≤ k ∧ k < M2) (.slice aa nd ca) d w6 ∧ ERow (fun k => M ≤ k ∧ k < M2) (.slice ab nu cb) u w6 ∧ (∀ k, F k → ¬ (M ≤ k ∧ k < M2)) ∧ (∀ k, F k → Bs ≤ k) ∧ Below Bs W w6 ∧ M2 ≤ w6.heap.size) := by
                obtain ⟨hS, hA, hAb, hFA, hFN, hB, hw10⟩ := HR.out
                have hs0 := hS.lies.lt
                have hbs := hFN Bs hS.fB
                exact ⟨hS.later H6.out, hA.later H6.out, hAb.later H6.out, hFA, hFN, hB.trans (H6.out.mono (by omega)), Nat.le_trans hw10 H6.out.size⟩
              clear HR H6
              have HE := hid_of' (edits_ok HST.out.1)
              have HA := hid_of' HST.out.2
              go_upto_region 26 with (go_at_call 24; (with_reducible refine HE.out.mono ?_); rintro e w8 ⟨x8, y8, rfl, hx8, hy8, hb8⟩; clear HE; have H8 := hid_of' (And.intro hx8 (And.intro hy8 hb8)); clear hx8 hy8 hb8)
              obtain ⟨hx8, hy8, hb8⟩ := H8.out
              obtain ⟨us8, hO8, hE8, _⟩ := hx8.ex
              obtain ⟨ub8, hP8, hF8, _⟩ := hy8.ex
              obtain ⟨a8, c8, hv8⟩ := hO8.form
              obtain ⟨b8, e8, hv9⟩ := hP8.form
              generalize us8.length = n8 at hv8
              generalize ub8.length = m8 at hv9
              subst hv8 hv9
              have HH1 := hid_of' (histories_same hx8.row.sl (HA.out.1.later hb8).sl HF.out.1 HF.out.2.2.1)
              have HYr8 := hid_of' hy8.row.sl
              have HB8 := hid_of' hb8
              clear hx8 hy8 hO8 hE8 hP8 hF8 H8 hb8
              go_wp2_with (first | (go_at_call_of 27 (Value.slice a8 n8 c8); (with_reducible refine HH1.out.mono ?_); rintro e w9 ⟨rfl, hb9⟩; clear HH1; have HH2 := hid_of' (histories_same (HYr8.out.later hb9) (HA.out.2.1.later (bgo HB8.out hb9)).sl HF.out.2.1 HF.out.2.2.2); have H9 := hid_of' (bgo HB8.out hb9); clear hb9) | (go_at_call 27; (with_reducible refine HH2.out.mono ?_); rintro e wA ⟨rfl, hbA⟩; clear HH2; have HbA := hid_of' (bgo H9.out hbA); clear hbA))
              go_roundw
              case rel => exact ⟨1, by go_num, by decide, ⟨_, _, _, (HST.out.1.later HbA.out), HA.out.1.later HbA.out, HA.out.2.1.later HbA.out, HA.out.2.2.1, HA.out.2.2.2.1, HA.out.2.2.2.2.1.trans (HbA.out.mono (by have := HA.out.2.2.2.2.1.size; have := HBs.out; omega)), Nat.le_trans HA.out.2.2.2.2.2 HbA.out.size⟩⟩
              case measure => simp [intOf]
            · skip
              obtain ⟨n, l9, hn, hl⟩ := last_ex he
              have HU := hid_of' (undo_yes hS hn hl)
              obtain ⟨z1, z2, z3, z4⟩ := pure_ur hn hl HTot.out
              have HZ := hid_of' (And.intro z1 (And.intro z2 (And.intro z3 z4)))
              have HR := hid_of' (And.intro hS (And.intro hA (And.intro hAb (And.intro hFA (And.intro hFN (And.intro hB hw10))))))
              clear hS hA hAb hFA hFN hB z1 z2 z3 z4 hw10
              go_upto_region 17 with (go_at_call 25; (with_reducible refine HU.out.mono ?_); rintro e w5 ⟨v5, vd5, vu5, F5, rfl, hv5, _, hk5, hc5, hf5⟩; clear HU; obtain ⟨a5, c5, hv9, _⟩ := Rw.form hv5.1; generalize List.length _ = n5 at hv9; subst hv9; have H5 := hid_of' (And.intro hk5 (And.intro hc5 hf5)); clear hv5 hk5 hc5 hf5)
              have HU2 := hid_of' (redo_yes H5.out.1 HZ.out.1 HZ.out.2.1)
              go_upto_region 25 with (go_at_call 26; (with_reducible refine HU2.out.mono ?_); rintro e w6 ⟨v6, vd6, vu6, F6, rfl, hv6, _, hk6, hc6, hf6⟩; clear HU2; obtain ⟨a6, c6, hv9, _⟩ := Rw.form hv6.1; generalize List.length _ = n6 at hv9; subst hv9; have H6 := hid_of' (And.intro hk6 (And.intro hc6 hf6)); clear hv6 hk6 hc6 hf6)
              have HST : Hid (SkAt 68 Bs vd6 vu6 F6 d u w6 ∧ ERow (fun k => M ≤ k ∧ k < M2) (.slice aa nd ca) d w6 ∧ ERow (fun k => M ≤ k ∧ k < M2) (.slice ab nu cb) u w6 ∧ (∀ k, F6 k → ¬ (M ≤ k ∧ k < M2)) ∧ (∀ k, F6 k → Bs ≤ k) ∧ Below Bs W w6 ∧ M2 ≤ w6.heap.size) := by
                obtain ⟨hS, hA, hAb, hFA, hFN, hB, hw10⟩ := HR.out
                obtain ⟨hk5, hc5, hf5⟩ := H5.out
                obtain ⟨hk6, hc6, hf6⟩ := H6.out
                rw [HZ.out.2.2.1, HZ.out.2.2.2] at hk6
                have s5 := hc5.size
                have s6 := hc6.size
                have hs0 := hS.lies.lt
                have hF5A : ∀ k, F5 k → ¬ (M ≤ k ∧ k < M2) := fun k hk q => by
                  rcases hf5 k hk with e | e
                  · exact hFA k e q
                  · omega
                have hF5N : ∀ k, F5 k → Bs ≤ k := fun k hk => by
                  rcases hf5 k hk with e | e
                  · exact hFN k e
                  · omega
                have hva : ∀ k, Value.ownBlock (.slice aa nd ca) = some k → M ≤ k ∧ k < M2 := HOw.out.1
                have hvb : ∀ k, Value.ownBlock (.slice ab nu cb) = some k → M ≤ k ∧ k < M2 := HOw.out.2
                have hA5 := hA.ch hc5 (fun k hk q => hFA k q (hva k hk)) (fun k hk q => hFA k q hk)
                have hB5 := hAb.ch hc5 (fun k hk q => hFA k q (hvb k hk)) (fun k hk q => hFA k q hk)
                have b5 : Below Bs W w5 := hB.trans (hc5.below (fun s hs q => by have := hFN s q; omega) (by omega))
                refine ⟨hk6, hA5.ch hc6 (fun k hk q => hF5A k q (hva k hk)) (fun k hk q => hF5A k q hk), hB5.ch hc6 (fun k hk q => hF5A k q (hvb k hk)) (fun k hk q => hF5A k q hk), fun k hk q => ?_, fun k hk => ?_, b5.trans (hc6.below (fun s hs q => by have := hF5N s q; omega) (by omega)), by omega⟩
                · rcases hf6 k hk with e | e
                  · exact hF5A k e q
                  · omega
                · rcases hf6 k hk with e | e
                  · exact hF5N k e
                  · omega
              clear HR H5 H6 HZ
              have HE := hid_of' (edits_ok HST.out.1)
              have HA := hid_of' HST.out.2
              go_upto_region 26 with (go_at_call 24; (with_reducible refine HE.out.mono ?_); rintro e w8 ⟨x8, y8, rfl, hx8, hy8, hb8⟩; clear HE; have H8 := hid_of' (And.intro hx8 (And.intro hy8 hb8)); clear hx8 hy8 hb8)
              obtain ⟨hx8, hy8, hb8⟩ := H8.out
              obtain ⟨us8, hO8, hE8, _⟩ := hx8.ex
              obtain ⟨ub8, hP8, hF8, _⟩ := hy8.ex
              obtain ⟨a8, c8, hv8⟩ := hO8.form
              obtain ⟨b8, e8, hv9⟩ := hP8.form
              generalize us8.length = n8 at hv8
              generalize ub8.length = m8 at hv9
              subst hv8 hv9
              have HH1 := hid_of' (histories_same hx8.row.sl (HA.out.1.later hb8).sl HF.out.1 HF.out.2.2.1)
              have HYr8 := hid_of' hy8.row.sl
              have HB8 := hid_of' hb8
              clear hx8 hy8 hO8 hE8 hP8 hF8 H8 hb8
              go_wp2_with (first | (go_at_call_of 27 (Value.slice a8 n8 c8); (with_reducible refine HH1.out.mono ?_); rintro e w9 ⟨rfl, hb9⟩; clear HH1; have HH2 := hid_of' (histories_same (HYr8.out.later hb9) (HA.out.2.1.later (bgo HB8.out hb9)).sl HF.out.2.1 HF.out.2.2.2); have H9 := hid_of' (bgo HB8.out hb9); clear hb9) | (go_at_call 27; (with_reducible refine HH2.out.mono ?_); rintro e wA ⟨rfl, hbA⟩; clear HH2; have HbA := hid_of' (bgo H9.out hbA); clear hbA))
              go_roundw
              case rel => exact ⟨1, by go_num, by decide, ⟨_, _, _, (HST.out.1.later HbA.out), HA.out.1.later HbA.out, HA.out.2.1.later HbA.out, HA.out.2.2.1, HA.out.2.2.2.1, HA.out.2.2.2.2.1.trans (HbA.out.mono (by have := HA.out.2.2.2.2.1.size; have := HBs.out; omega)), Nat.le_trans HA.out.2.2.2.2.2 HbA.out.size⟩⟩
              case measure => simp [intOf]
          | 1, _ =>
            by_cases he : u = []
            · skip
              have HU := hid_of' (redo_no (HLa.out wr hB).ln hS he)
              have HR := hid_of' (And.intro hS (And.intro hA (And.intro hAb (And.intro hFA (And.intro hFN (And.intro hB hw10))))))
              clear hS hA hAb hFA hFN hB hw10
              go_upto_region 25 with (go_at_call 26; (with_reducible refine HU.out.mono ?_); rintro e w6 ⟨v6, rfl, ⟨b6, rfl, hb, hk, hf⟩, hb6⟩; clear HU; have H6 := hid_of' hb6; clear hb hk hf hb6)
              have HST : Hid (SkAt 68 Bs vd vu F d u w6 ∧ ERow (fun k => M ≤ k ∧ k < M2) (.slice aa nd ca) d w6 ∧ ERow (fun k => M ≤ k ∧ k < M2) (.slice ab nu cb) u w6 ∧ (∀ k, F k → ¬ (M ≤ k ∧ k < M2)) ∧ (∀ k, F k → Bs ≤ k) ∧ Below Bs W w6 ∧ M2 ≤ w6.heap.size) := by
                obtain ⟨hS, hA, hAb, hFA, hFN, hB, hw10⟩ := HR.out
                have hs0 := hS.lies.lt
                have hbs := hFN Bs hS.fB
                exact ⟨hS.later H6.out, hA.later H6.out, hAb.later H6.out, hFA, hFN, hB.trans (H6.out.mono (by omega)), Nat.le_trans hw10 H6.out.size⟩
              clear HR H6
              have HE := hid_of' (edits_ok HST.out.1)
              have HA := hid_of' HST.out.2
              go_upto_region 26 with (go_at_call 24; (with_reducible refine HE.out.mono ?_); rintro e w8 ⟨x8, y8, rfl, hx8, hy8, hb8⟩; clear HE; have H8 := hid_of' (And.intro hx8 (And.intro hy8 hb8)); clear hx8 hy8 hb8)
              obtain ⟨hx8, hy8, hb8⟩ := H8.out
              obtain ⟨us8, hO8, hE8, _⟩ := hx8.ex
              obtain ⟨ub8, hP8, hF8, _⟩ := hy8.ex
              obtain ⟨a8, c8, hv8⟩ := hO8.form
              obtain ⟨b8, e8, hv9⟩ := hP8.form
              generalize us8.length = n8 at hv8
              generalize ub8.length = m8 at hv9
              subst hv8 hv9
              have HH1 := hid_of' (histories_same hx8.row.sl (HA.out.1.later hb8).sl HF.out.1 HF.out.2.2.1)
              have HYr8 := hid_of' hy8.row.sl
              have HB8 := hid_of' hb8
              clear hx8 hy8 hO8 hE8 hP8 hF8 H8 hb8
              go_wp2_with (first | (go_at_call_of 27 (Value.slice a8 n8 c8); (with_reducible refine HH1.out.mono ?_); rintro e w9 ⟨rfl, hb9⟩; clear HH1; have HH2 := hid_of' (histories_same (HYr8.out.later hb9) (HA.out.2.1.later (bgo HB8.out hb9)).sl HF.out.2.1 HF.out.2.2.2); have H9 := hid_of' (bgo HB8.out hb9); clear hb9) | (go_at_call 27; (with_reducible refine HH2.out.mono ?_); rintro e wA ⟨rfl, hbA⟩; clear HH2; have HbA := hid_of' (bgo H9.out hbA); clear hbA))
              go_roundw
              case rel => exact ⟨2, by go_num, by decide, ⟨_, _, _, (HST.out.1.later HbA.out), HA.out.1.later HbA.out, HA.out.2.1.later HbA.out, HA.out.2.2.1, HA.out.2.2.2.1, HA.out.2.2.2.2.1.trans (HbA.out.mono (by have := HA.out.2.2.2.2.1.size; have := HBs.out; omega)), Nat.le_trans HA.out.2.2.2.2.2 HbA.out.size⟩⟩
              case measure => simp [intOf]
            · skip
              obtain ⟨n, l9, hn, hl⟩ := last_ex he
              have HU := hid_of' (redo_yes hS hn hl)
              obtain ⟨z1, z2, z3, z4⟩ := pure_ru hn hl HTot.out
              have HZ := hid_of' (And.intro z1 (And.intro z2 (And.intro z3 z4)))
              have HR := hid_of' (And.intro hS (And.intro hA (And.intro hAb (And.intro hFA (And.intro hFN (And.intro hB hw10))))))
              clear hS hA hAb hFA hFN hB z1 z2 z3 z4 hw10
              go_upto_region 22 with (go_at_call 26; (with_reducible refine HU.out.mono ?_); rintro e w5 ⟨v5, vd5, vu5, F5, rfl, hv5, _, hk5, hc5, hf5⟩; clear HU; obtain ⟨a5, c5, hv9, _⟩ := Rw.form hv5.1; generalize List.length _ = n5 at hv9; subst hv9; have H5 := hid_of' (And.intro hk5 (And.intro hc5 hf5)); clear hv5 hk5 hc5 hf5)
              have HU2 := hid_of' (undo_yes H5.out.1 HZ.out.1 HZ.out.2.1)
              go_upto_region 25 with (go_at_call 25; (with_reducible refine HU2.out.mono ?_); rintro e w6 ⟨v6, vd6, vu6, F6, rfl, hv6, _, hk6, hc6, hf6⟩; clear HU2; obtain ⟨a6, c6, hv9, _⟩ := Rw.form hv6.1; generalize List.length _ = n6 at hv9; subst hv9; have H6 := hid_of' (And.intro hk6 (And.intro hc6 hf6)); clear hv6 hk6 hc6 hf6)
              have HST : Hid (SkAt 68 Bs vd6 vu6 F6 d u w6 ∧ ERow (fun k => M ≤ k ∧ k < M2) (.slice aa nd ca) d w6 ∧ ERow (fun k => M ≤ k ∧ k < M2) (.slice ab nu cb) u w6 ∧ (∀ k, F6 k → ¬ (M ≤ k ∧ k < M2)) ∧ (∀ k, F6 k → Bs ≤ k) ∧ Below Bs W w6 ∧ M2 ≤ w6.heap.size) := by
                obtain ⟨hS, hA, hAb, hFA, hFN, hB, hw10⟩ := HR.out
                obtain ⟨hk5, hc5, hf5⟩ := H5.out
                obtain ⟨hk6, hc6, hf6⟩ := H6.out
                rw [HZ.out.2.2.1, HZ.out.2.2.2] at hk6
                have s5 := hc5.size
                have s6 := hc6.size
                have hs0 := hS.lies.lt
                have hF5A : ∀ k, F5 k → ¬ (M ≤ k ∧ k < M2) := fun k hk q => by
                  rcases hf5 k hk with e | e
                  · exact hFA k e q
                  · omega
                have hF5N : ∀ k, F5 k → Bs ≤ k := fun k hk => by
                  rcases hf5 k hk with e | e
                  · exact hFN k e
                  · omega
                have hva : ∀ k, Value.ownBlock (.slice aa nd ca) = some k → M ≤ k ∧ k < M2 := HOw.out.1
                have hvb : ∀ k, Value.ownBlock (.slice ab nu cb) = some k → M ≤ k ∧ k < M2 := HOw.out.2
                have hA5 := hA.ch hc5 (fun k hk q => hFA k q (hva k hk)) (fun k hk q => hFA k q hk)
                have hB5 := hAb.ch hc5 (fun k hk q => hFA k q (hvb k hk)) (fun k hk q => hFA k q hk)
                have b5 : Below Bs W w5 := hB.trans (hc5.below (fun s hs q => by have := hFN s q; omega) (by omega))
                refine ⟨hk6, hA5.ch hc6 (fun k hk q => hF5A k q (hva k hk)) (fun k hk q => hF5A k q hk), hB5.ch hc6 (fun k hk q => hF5A k q (hvb k hk)) (fun k hk q => hF5A k q hk), fun k hk q => ?_, fun k hk => ?_, b5.trans (hc6.below (fun s hs q => by have := hF5N s q; omega) (by omega)), by omega⟩
                · rcases hf6 k hk with e | e
                  · exact hF5A k e q
                  · omega
                · rcases hf6 k hk with e | e
                  · exact hF5N k e
                  · omega
              clear HR H5 H6 HZ
              have HE := hid_of' (edits_ok HST.out.1)
              have HA := hid_of' HST.out.2
              go_upto_region 26 with (go_at_call 24; (with_reducible refine HE.out.mono ?_); rintro e w8 ⟨x8, y8, rfl, hx8, hy8, hb8⟩; clear HE; have H8 := hid_of' (And.intro hx8 (And.intro hy8 hb8)); clear hx8 hy8 hb8)
              obtain ⟨hx8, hy8, hb8⟩ := H8.out
              obtain ⟨us8, hO8, hE8, _⟩ := hx8.ex
              obtain ⟨ub8, hP8, hF8, _⟩ := hy8.ex
              obtain ⟨a8, c8, hv8⟩ := hO8.form
              obtain ⟨b8, e8, hv9⟩ := hP8.form
              generalize us8.length = n8 at hv8
              generalize ub8.length = m8 at hv9
              subst hv8 hv9
              have HH1 := hid_of' (histories_same hx8.row.sl (HA.out.1.later hb8).sl HF.out.1 HF.out.2.2.1)
              have HYr8 := hid_of' hy8.row.sl
              have HB8 := hid_of' hb8
              clear hx8 hy8 hO8 hE8 hP8 hF8 H8 hb8
              go_wp2_with (first | (go_at_call_of 27 (Value.slice a8 n8 c8); (with_reducible refine HH1.out.mono ?_); rintro e w9 ⟨rfl, hb9⟩; clear HH1; have HH2 := hid_of' (histories_same (HYr8.out.later hb9) (HA.out.2.1.later (bgo HB8.out hb9)).sl HF.out.2.1 HF.out.2.2.2); have H9 := hid_of' (bgo HB8.out hb9); clear hb9) | (go_at_call 27; (with_reducible refine HH2.out.mono ?_); rintro e wA ⟨rfl, hbA⟩; clear HH2; have HbA := hid_of' (bgo H9.out hbA); clear hbA))
              go_roundw
              case rel => exact ⟨2, by go_num, by decide, ⟨_, _, _, (HST.out.1.later HbA.out), HA.out.1.later HbA.out, HA.out.2.1.later HbA.out, HA.out.2.2.1, HA.out.2.2.2.1, HA.out.2.2.2.2.1.trans (HbA.out.mono (by have := HA.out.2.2.2.2.1.size; have := HBs.out; omega)), Nat.le_trans HA.out.2.2.2.2.2 HbA.out.size⟩⟩
              case measure => simp [intOf]
          | 2, _ =>
            have HBf := hid_of' hB
            have HSz := hid_of' hw10
            have hbs := hFN Bs hS.fB
            have hlt := hS.lies.lt
            clear hS hA hAb hFA hFN hB hw10
            go_wp2_with (go_at_call 13; refine (HW.out _).mono ?_; rintro e w7 ⟨rfl, hb7⟩)
            go_ret
            exact ⟨rfl, HBs.out.symm ▸ HBf.out.trans (hb7.mono (by omega))⟩
      · have hi1 : ¬ (i : Int) < (l.length : Int) := by omega
        have HE := hid_of' (edits_ok hP.s)
        have hfd : ∀ l ∈ d, l.length ≤ 2199023255552 := fun l hl => (hP.s.rd.fits l hl).2
        have hfu : ∀ l ∈ u, l.length ≤ 2199023255552 := fun l hl => (hP.s.ru.fits l hl).2
        have HF := hid_of' (And.intro hfd (And.intro hfu (And.intro (show d.length ≤ 100000 by omega) (show u.length ≤ 100000 by omega))))
        have HTot := hid_of' htot
        have H0 := hid_of' (And.intro hP hB)
        have HN0 : Hid (Bs ≤ wr.heap.size) := hP.size
        have HLa : Hid (∀ x, Below Bs W x → Laid ad x) := fun x hx => HL.out.below (HBs.out.symm ▸ hx)
        clear hil hP hB htot hfd hfu
        go_upto_region 11 with (go_at_call 24; (with_reducible refine HE.out.mono ?_); rintro e w2 ⟨va, vb, rfl, hx, hy, hb2⟩; clear HE; have H2 := hid_of' (And.intro hx (And.intro hy hb2)); clear hx hy hb2)
        have HST0 : Hid (SkAt 68 Bs vd vu F d u w2 ∧ ERow (fun k => wr.heap.size ≤ k ∧ k < w2.heap.size) va d w2 ∧ ERow (fun k => wr.heap.size ≤ k ∧ k < w2.heap.size) vb u w2 ∧ (∀ k, F k → ¬ (wr.heap.size ≤ k ∧ k < w2.heap.size)) ∧ (∀ k, F k → Bs ≤ k) ∧ Below Bs W w2 ∧ w2.heap.size ≤ w2.heap.size) := by
          obtain ⟨hx, hy, hb2⟩ := H2.out
          obtain ⟨hP, hB⟩ := H0.out
          exact ⟨hP.s.later hb2, hx.row.mono (fun k hk hq => ⟨hk, hq⟩), hy.row.mono (fun k hk hq => ⟨hk, hq⟩), fun k hk q => by have := hP.s.lt k hk; omega, hP.nF, hB.trans (hb2.mono hP.size), Nat.le_refl _⟩
        have HOw : Hid ((∀ k, va.ownBlock = some k → wr.heap.size ≤ k ∧ k < w2.heap.size) ∧ (∀ k, vb.ownBlock = some k → wr.heap.size ≤ k ∧ k < w2.heap.size)) := ⟨fun k hk => ⟨H2.out.1.own k hk, H2.out.1.row.lt k hk⟩, fun k hk => ⟨H2.out.2.1.own k hk, H2.out.2.1.row.lt k hk⟩⟩
        obtain ⟨aa, ca, hva, _⟩ := H2.out.1.row.form
        obtain ⟨ab, cb, hvb, _⟩ := H2.out.2.1.row.form
        generalize d.length = nd at hva
        generalize u.length = nu at hvb
        generalize hM : wr.heap.size = M at HST0 HOw HN0
        generalize hM2 : w2.heap.size = M2 at HST0 HOw
        have HM2 : Hid (M2 ≤ w2.heap.size) := by show _ ≤ _; omega
        clear H2 H0 hM hM2
        subst hva hvb
        go_upto_region 12 with fail
        go_loopw [8] (fun kv wq => ∃ (k : Nat), kv = .int .i64 (k : Int) ∧ k ≤ 2 ∧ (∃ vd vu F, SkAt 68 Bs vd vu F d u wq ∧ ERow (fun k => M ≤ k ∧ k < M2) (.slice aa nd ca) d wq ∧ ERow (fun k => M ≤ k ∧ k < M2) (.slice ab nu cb) u wq ∧ (∀ k, F k → ¬ (M ≤ k ∧ k < M2)) ∧ (∀ k, F k → Bs ≤ k) ∧ Below Bs W wq ∧ M2 ≤ wq.heap.size)) (fun kv _ => 2 - (intOf kv).toNat)
        case atStart => exact ⟨0, rfl, by decide, ⟨_, _, _, HST0.out.1, HST0.out.2.1, HST0.out.2.2.1, HST0.out.2.2.2.1, HST0.out.2.2.2.2.1, HST0.out.2.2.2.2.2.1, HM2.out⟩⟩
        case round =>
          obtain ⟨k, rfl, hk, vd, vu, F, hS, hA, hAb, hFA, hFN, hB, hw10⟩ := hrel
          match k, hk with
          | 0, _ =>
            by_cases he : d = []
            · skip
              have HU := hid_of' (undo_no (HLa.out wr hB).ln hS he)
              have HR := hid_of' (And.intro hS (And.intro hA (And.intro hAb (And.intro hFA (And.intro hFN (And.intro hB hw10))))))
              clear hS hA hAb hFA hFN hB hw10
              go_upto_region 25 with (go_at_call 25; (with_reducible refine HU.out.mono ?_); rintro e w6 ⟨v6, rfl, ⟨b6, rfl, hb, hk, hf⟩, hb6⟩; clear HU; have H6 := hid_of' hb6; clear hb hk hf hb6)
              have HST : Hid (SkAt 68 Bs vd vu F d u w6 ∧ ERow (fun k => M ≤ k ∧ k < M2) (.slice aa nd ca) d w6 ∧ ERow (fun k => M ≤ k ∧ k < M2) (.slice ab nu cb) u w6 ∧ (∀ k, F k → ¬ (M ≤ k ∧ k < M2)) ∧ (∀ k, F k → Bs ≤ k) ∧ Below Bs W w6 ∧ M2 ≤ w6.heap.size) := by
                obtain ⟨hS, hA, hAb, hFA, hFN, hB, hw10⟩ := HR.out
                have hs0 := hS.lies.lt
                have hbs := hFN Bs hS.fB
                exact ⟨hS.later H6.out, hA.later H6.out, hAb.later H6.out, hFA, hFN, hB.trans (H6.out.mono (by omega)), Nat.le_trans hw10 H6.out.size⟩
              clear HR H6
              have HE := hid_of' (edits_ok HST.out.1)
              have HA := hid_of' HST.out.2
              go_upto_region 26 with (go_at_call 24; (with_reducible refine HE.out.mono ?_); rintro e w8 ⟨x8, y8, rfl, hx8, hy8, hb8⟩; clear HE; have H8 := hid_of' (And.intro hx8 (And.intro hy8 hb8)); clear hx8 hy8 hb8)
              obtain ⟨hx8, hy8, hb8⟩ := H8.out
              obtain ⟨us8, hO8, hE8, _⟩ := hx8.ex
              obtain ⟨ub8, hP8, hF8, _⟩ := hy8.ex
              obtain ⟨a8, c8, hv8⟩ := hO8.form
              obtain ⟨b8, e8, hv9⟩ := hP8.form
              generalize us8.length = n8 at hv8
              generalize ub8.length = m8 at hv9
              subst hv8 hv9
              have HH1 := hid_of' (histories_same hx8.row.sl (HA.out.1.later hb8).sl HF.out.1 HF.out.2.2.1)
              have HYr8 := hid_of' hy8.row.sl
              have HB8 := hid_of' hb8
              clear hx8 hy8 hO8 hE8 hP8 hF8 H8 hb8
              go_wp2_with (first | (go_at_call_of 27 (Value.slice a8 n8 c8); (with_reducible refine HH1.out.mono ?_); rintro e w9 ⟨rfl, hb9⟩; clear HH1; have HH2 := hid_of' (histories_same (HYr8.out.later hb9) (HA.out.2.1.later (bgo HB8.out hb9)).sl HF.out.2.1 HF.out.2.2.2); have H9 := hid_of' (bgo HB8.out hb9); clear hb9) | (go_at_call 27; (with_reducible refine HH2.out.mono ?_); rintro e wA ⟨rfl, hbA⟩; clear HH2; have HbA := hid_of' (bgo H9.out hbA); clear hbA))
              go_roundw
              case rel => exact ⟨1, by go_num, by decide, ⟨_, _, _, (HST.out.1.later HbA.out), HA.out.1.later HbA.out, HA.out.2.1.later HbA.out, HA.out.2.2.1, HA.out.2.2.2.1, HA.out.2.2.2.2.1.trans (HbA.out.mono (by have := HA.out.2.2.2.2.1.size; have := HBs.out; omega)), Nat.le_trans HA.out.2.2.2.2.2 HbA.out.size⟩⟩
              case measure => simp [intOf]
            · skip
              obtain ⟨n, l9, hn, hl⟩ := last_ex he
              have HU := hid_of' (undo_yes hS hn hl)
              obtain ⟨z1, z2, z3, z4⟩ := pure_ur hn hl HTot.out
              have HZ := hid_of' (And.intro z1 (And.intro z2 (And.intro z3 z4)))
              have HR := hid_of' (And.intro hS (And.intro hA (And.intro hAb (And.intro hFA (And.intro hFN (And.intro hB hw10))))))
              clear hS hA hAb hFA hFN hB z1 z2 z3 z4 hw10
              go_upto_region 17 with (go_at_call 25; (with_reducible refine HU.out.mono ?_); rintro e w5 ⟨v5, vd5, vu5, F5, rfl, hv5, _, hk5, hc5, hf5⟩; clear HU; obtain ⟨a5, c5, hv9, _⟩ := Rw.form hv5.1; generalize List.length _ = n5 at hv9; subst hv9; have H5 := hid_of' (And.intro hk5 (And.intro hc5 hf5)); clear hv5 hk5 hc5 hf5)
              have HU2 := hid_of' (redo_yes H5.out.1 HZ.out.1 HZ.out.2.1)
              go_upto_region 25 with (go_at_call 26; (with_reducible refine HU2.out.mono ?_); rintro e w6 ⟨v6, vd6, vu6, F6, rfl, hv6, _, hk6, hc6, hf6⟩; clear HU2; obtain ⟨a6, c6, hv9, _⟩ := Rw.form hv6.1; generalize List.length _ = n6 at hv9; subst hv9; have H6 := hid_of' (And.intro hk6 (And.intro hc6 hf6)); clear hv6 hk6 hc6 hf6)
              have HST : Hid (SkAt 68 Bs vd6 vu6 F6 d u w6 ∧ ERow (fun k => M ≤ k ∧ k < M2) (.slice aa nd ca) d w6 ∧ ERow (fun k => M ≤ k ∧ k < M2) (.slice ab nu cb) u w6 ∧ (∀ k, F6 k → ¬ (M ≤ k ∧ k < M2)) ∧ (∀ k, F6 k → Bs ≤ k) ∧ Below Bs W w6 ∧ M2 ≤ w6.heap.size) := by
                obtain ⟨hS, hA, hAb, hFA, hFN, hB, hw10⟩ := HR.out
                obtain ⟨hk5, hc5, hf5⟩ := H5.out
                obtain ⟨hk6, hc6, hf6⟩ := H6.out
                rw [HZ.out.2.2.1, HZ.out.2.2.2] at hk6
                have s5 := hc5.size
                have s6 := hc6.size
                have hs0 := hS.lies.lt
                have hF5A : ∀ k, F5 k → ¬ (M ≤ k ∧ k < M2) := fun k hk q => by
                  rcases hf5 k hk with e | e
                  · exact hFA k e q
                  · omega
                have hF5N : ∀ k, F5 k → Bs ≤ k := fun k hk => by
                  rcases hf5 k hk with e | e
                  · exact hFN k e
                  · omega
                have hva : ∀ k, Value.ownBlock (.slice aa nd ca) = some k → M ≤ k ∧ k < M2 := HOw.out.1
                have hvb : ∀ k, Value.ownBlock (.slice ab nu cb) = some k → M ≤ k ∧ k < M2 := HOw.out.2
                have hA5 := hA.ch hc5 (fun k hk q => hFA k q (hva k hk)) (fun k hk q => hFA k q hk)
                have hB5 := hAb.ch hc5 (fun k hk q => hFA k q (hvb k hk)) (fun k hk q => hFA k q hk)
                have b5 : Below Bs W w5 := hB.trans (hc5.below (fun s hs q => by have := hFN s q; omega) (by omega))
                refine ⟨hk6, hA5.ch hc6 (fun k hk q => hF5A k q (hva k hk)) (fun k hk q => hF5A k q hk), hB5.ch hc6 (fun k hk q => hF5A k q (hvb k hk)) (fun k hk q => hF5A k q hk), fun k hk q => ?_, fun k hk => ?_, b5.trans (hc6.below (fun s hs q => by have := hF5N s q; omega) (by omega)), by omega⟩
                · rcases hf6 k hk with e | e
                  · exact hF5A k e q
                  · omega
                · rcases hf6 k hk with e | e
                  · exact hF5N k e
                  · omega
              clear HR H5 H6 HZ
              have HE := hid_of' (edits_ok HST.out.1)
              have HA := hid_of' HST.out.2
              go_upto_region 26 with (go_at_call 24; (with_reducible refine HE.out.mono ?_); rintro e w8 ⟨x8, y8, rfl, hx8, hy8, hb8⟩; clear HE; have H8 := hid_of' (And.intro hx8 (And.intro hy8 hb8)); clear hx8 hy8 hb8)
              obtain ⟨hx8, hy8, hb8⟩ := H8.out
              obtain ⟨us8, hO8, hE8, _⟩ := hx8.ex
              obtain ⟨ub8, hP8, hF8, _⟩ := hy8.ex
              obtain ⟨a8, c8, hv8⟩ := hO8.form
              obtain ⟨b8, e8, hv9⟩ := hP8.form
              generalize us8.length = n8 at hv8
              generalize ub8.length = m8 at hv9
              subst hv8 hv9
              have HH1 := hid_of' (histories_same hx8.row.sl (HA.out.1.later hb8).sl HF.out.1 HF.out.2.2.1)
              have HYr8 := hid_of' hy8.row.sl
              have HB8 := hid_of' hb8
              clear hx8 hy8 hO8 hE8 hP8 hF8 H8 hb8
              go_wp2_with (first | (go_at_call_of 27 (Value.slice a8 n8 c8); (with_reducible refine HH1.out.mono ?_); rintro e w9 ⟨rfl, hb9⟩; clear HH1; have HH2 := hid_of' (histories_same (HYr8.out.later hb9) (HA.out.2.1.later (bgo HB8.out hb9)).sl HF.out.2.1 HF.out.2.2.2); have H9 := hid_of' (bgo HB8.out hb9); clear hb9) | (go_at_call 27; (with_reducible refine HH2.out.mono ?_); rintro e wA ⟨rfl, hbA⟩; clear HH2; have HbA := hid_of' (bgo H9.out hbA); clear hbA))
              go_roundw
              case rel => exact ⟨1, by go_num, by decide, ⟨_, _, _, (HST.out.1.later HbA.out), HA.out.1.later HbA.out, HA.out.2.1.later HbA.out, HA.out.2.2.1, HA.out.2.2.2.1, HA.out.2.2.2.2.1.trans (HbA.out.mono (by have := HA.out.2.2.2.2.1.size; have := HBs.out; omega)), Nat.le_trans HA.out.2.2.2.2.2 HbA.out.size⟩⟩
              case measure => simp [intOf]
          | 1, _ =>
            by_cases he : u = []
            · skip
              have HU := hid_of' (redo_no (HLa.out wr hB).ln hS he)
              have HR := hid_of' (And.intro hS (And.intro hA (And.intro hAb (And.intro hFA (And.intro hFN (And.intro hB hw10))))))
              clear hS hA hAb hFA hFN hB hw10
              go_upto_region 25 with (go_at_call 26; (with_reducible refine HU.out.mono ?_); rintro e w6 ⟨v6, rfl, ⟨b6, rfl, hb, hk, hf⟩, hb6⟩; clear HU; have H6 := hid_of' hb6; clear hb hk hf hb6)
              have HST : Hid (SkAt 68 Bs vd vu F d u w6 ∧ ERow (fun k => M ≤ k ∧ k < M2) (.slice aa nd ca) d w6 ∧ ERow (fun k => M ≤ k ∧ k < M2) (.slice ab nu cb) u w6 ∧ (∀ k, F k → ¬ (M ≤ k ∧ k < M2)) ∧ (∀ k, F k → Bs ≤ k) ∧ Below Bs W w6 ∧ M2 ≤ w6.heap.size) := by
                obtain ⟨hS, hA, hAb, hFA, hFN, hB, hw10⟩ := HR.out
                have hs0 := hS.lies.lt
                have hbs := hFN Bs hS.fB
                exact ⟨hS.later H6.out, hA.later H6.out, hAb.later H6.out, hFA, hFN, hB.trans (H6.out.mono (by omega)), Nat.le_trans hw10 H6.out.size⟩
              clear HR H6
              have HE := hid_of' (edits_ok HST.out.1)
              have HA := hid_of' HST.out.2
              go_upto_region 26 with (go_at_call 24; (with_reducible refine HE.out.mono ?_); rintro e w8 ⟨x8, y8, rfl, hx8, hy8, hb8⟩; clear HE; have H8 := hid_of' (And.intro hx8 (And.intro hy8 hb8)); clear hx8 hy8 hb8)
              obtain ⟨hx8, hy8, hb8⟩ := H8.out
              obtain ⟨us8, hO8, hE8, _⟩ := hx8.ex
              obtain ⟨ub8, hP8, hF8, _⟩ := hy8.ex
              obtain ⟨a8, c8, hv8⟩ := hO8.form
              obtain ⟨b8, e8, hv9⟩ := hP8.form
              generalize us8.length = n8 at hv8
              generalize ub8.length = m8 at hv9
              subst hv8 hv9
              have HH1 := hid_of' (histories_same hx8.row.sl (HA.out.1.later hb8).sl HF.out.1 HF.out.2.2.1)
              have HYr8 := hid_of' hy8.row.sl
              have HB8 := hid_of' hb8
              clear hx8 hy8 hO8 hE8 hP8 hF8 H8 hb8
              go_wp2_with (first | (go_at_call_of 27 (Value.slice a8 n8 c8); (with_reducible refine HH1.out.mono ?_); rintro e w9 ⟨rfl, hb9⟩; clear HH1; have HH2 := hid_of' (histories_same (HYr8.out.later hb9) (HA.out.2.1.later (bgo HB8.out hb9)).sl HF.out.2.1 HF.out.2.2.2); have H9 := hid_of' (bgo HB8.out hb9); clear hb9) | (go_at_call 27; (with_reducible refine HH2.out.mono ?_); rintro e wA ⟨rfl, hbA⟩; clear HH2; have HbA := hid_of' (bgo H9.out hbA); clear hbA))
              go_roundw
              case rel => exact ⟨2, by go_num, by decide, ⟨_, _, _, (HST.out.1.later HbA.out), HA.out.1.later HbA.out, HA.out.2.1.later HbA.out, HA.out.2.2.1, HA.out.2.2.2.1, HA.out.2.2.2.2.1.trans (HbA.out.mono (by have := HA.out.2.2.2.2.1.size; have := HBs.out; omega)), Nat.le_trans HA.out.2.2.2.2.2 HbA.out.size⟩⟩
              case measure => simp [intOf]
            · skip
              obtain ⟨n, l9, hn, hl⟩ := last_ex he
              have HU := hid_of' (redo_yes hS hn hl)
              obtain ⟨z1, z2, z3, z4⟩ := pure_ru hn hl HTot.out
              have HZ := hid_of' (And.intro z1 (And.intro z2 (And.intro z3 z4)))
              have HR := hid_of' (And.intro hS (And.intro hA (And.intro hAb (And.intro hFA (And.intro hFN (And.intro hB hw10))))))
              clear hS hA hAb hFA hFN hB z1 z2 z3 z4 hw10
              go_upto_region 22 with (go_at_call 26; (with_reducible refine HU.out.mono ?_); rintro e w5 ⟨v5, vd5, vu5, F5, rfl, hv5, _, hk5, hc5, hf5⟩; clear HU; obtain ⟨a5, c5, hv9, _⟩ := Rw.form hv5.1; generalize List.length _ = n5 at hv9; subst hv9; have H5 := hid_of' (And.intro hk5 (And.intro hc5 hf5)); clear hv5 hk5 hc5 hf5)
              have HU2 := hid_of' (undo_yes H5.out.1 HZ.out.1 HZ.out.2.1)
              go_upto_region 25 with (go_at_call 25; (with_reducible refine HU2.out.mono ?_); rintro e w6 ⟨v6, vd6, vu6, F6, rfl, hv6, _, hk6, hc6, hf6⟩; clear HU2; obtain ⟨a6, c6, hv9, _⟩ := Rw.form hv6.1; generalize List.length _ = n6 at hv9; subst hv9; have H6 := hid_of' (And.intro hk6 (And.intro hc6 hf6)); clear hv6 hk6 hc6 hf6)
              have HST : Hid (SkAt 68 Bs vd6 vu6 F6 d u w6 ∧ ERow (fun k => M ≤ k ∧ k < M2) (.slice aa nd ca) d w6 ∧ ERow (fun k => M ≤ k ∧ k < M2) (.slice ab nu cb) u w6 ∧ (∀ k, F6 k → ¬ (M ≤ k ∧ k < M2)) ∧ (∀ k, F6 k → Bs ≤ k) ∧ Below Bs W w6 ∧ M2 ≤ w6.heap.size) := by
                obtain ⟨hS, hA, hAb, hFA, hFN, hB, hw10⟩ := HR.out
                obtain ⟨hk5, hc5, hf5⟩ := H5.out
                obtain ⟨hk6, hc6, hf6⟩ := H6.out
                rw [HZ.out.2.2.1, HZ.out.2.2.2] at hk6
                have s5 := hc5.size
                have s6 := hc6.size
                have hs0 := hS.lies.lt
                have hF5A : ∀ k, F5 k → ¬ (M ≤ k ∧ k < M2) := fun k hk q => by
                  rcases hf5 k hk with e | e
                  · exact hFA k e q
                  · omega
                have hF5N : ∀ k, F5 k → Bs ≤ k := fun k hk => by
                  rcases hf5 k hk with e | e
                  · exact hFN k e
                  · omega
                have hva : ∀ k, Value.ownBlock (.slice aa nd ca) = some k → M ≤ k ∧ k < M2 := HOw.out.1
                have hvb : ∀ k, Value.ownBlock (.slice ab nu cb) = some k → M ≤ k ∧ k < M2 := HOw.out.2
                have hA5 := hA.ch hc5 (fun k hk q => hFA k q (hva k hk)) (fun k hk q => hFA k q hk)
                have hB5 := hAb.ch hc5 (fun k hk q => hFA k q (hvb k hk)) (fun k hk q => hFA k q hk)
                have b5 : Below Bs W w5 := hB.trans (hc5.below (fun s hs q => by have := hFN s q; omega) (by omega))
                refine ⟨hk6, hA5.ch hc6 (fun k hk q => hF5A k q (hva k hk)) (fun k hk q => hF5A k q hk), hB5.ch hc6 (fun k hk q => hF5A k q (hvb k hk)) (fun k hk q => hF5A k q hk), fun k hk q => ?_, fun k hk => ?_, b5.trans (hc6.below (fun s hs q => by have := hF5N s q; omega) (by omega)), by omega⟩
                · rcases hf6 k hk with e | e
                  · exact hF5A k e q
                  · omega
                · rcases hf6 k hk with e | e
                  · exact hF5N k e
                  · omega
              clear HR H5 H6 HZ
              have HE := hid_of' (edits_ok HST.out.1)
              have HA := hid_of' HST.out.2
              go_upto_region 26 with (go_at_call 24; (with_reducible refine HE.out.mono ?_); rintro e w8 ⟨x8, y8, rfl, hx8, hy8, hb8⟩; clear HE; have H8 := hid_of' (And.intro hx8 (And.intro hy8 hb8)); clear hx8 hy8 hb8)
              obtain ⟨hx8, hy8, hb8⟩ := H8.out
              obtain ⟨us8, hO8, hE8, _⟩ := hx8.ex
              obtain ⟨ub8, hP8, hF8, _⟩ := hy8.ex
              obtain ⟨a8, c8, hv8⟩ := hO8.form
              obtain ⟨b8, e8, hv9⟩ := hP8.form
              generalize us8.length = n8 at hv8
              generalize ub8.length = m8 at hv9
              subst hv8 hv9
              have HH1 := hid_of' (histories_same hx8.row.sl (HA.out.1.later hb8).sl HF.out.1 HF.out.2.2.1)
              have HYr8 := hid_of' hy8.row.sl
              have HB8 := hid_of' hb8
              clear hx8 hy8 hO8 hE8 hP8 hF8 H8 hb8
              go_wp2_with (first | (go_at_call_of 27 (Value.slice a8 n8 c8); (with_reducible refine HH1.out.mono ?_); rintro e w9 ⟨rfl, hb9⟩; clear HH1; have HH2 := hid_of' (histories_same (HYr8.out.later hb9) (HA.out.2.1.later (bgo HB8.out hb9)).sl HF.out.2.1 HF.out.2.2.2); have H9 := hid_of' (bgo HB8.out hb9); clear hb9) | (go_at_call 27; (with_reducible refine HH2.out.mono ?_); rintro e wA ⟨rfl, hbA⟩; clear HH2; have HbA := hid_of' (bgo H9.out hbA); clear hbA))
              go_roundw
              case rel => exact ⟨2, by go_num, by decide, ⟨_, _, _, (HST.out.1.later HbA.out), HA.out.1.later HbA.out, HA.out.2.1.later HbA.out, HA.out.2.2.1, HA.out.2.2.2.1, HA.out.2.2.2.2.1.trans (HbA.out.mono (by have := HA.out.2.2.2.2.1.size; have := HBs.out; omega)), Nat.le_trans HA.out.2.2.2.2.2 HbA.out.size⟩⟩
              case measure => simp [intOf]
          | 2, _ =>
            have HBf := hid_of' hB
            have HSz := hid_of' hw10
            have hbs := hFN Bs hS.fB
            have hlt := hS.lies.lt
            clear hS hA hAb hFA hFN hB hw10
            go_wp2_with (go_at_call 13; refine (HW.out _).mono ?_; rintro e w7 ⟨rfl, hb7⟩)
            go_ret
            exact ⟨rfl, HBs.out.symm ▸ HBf.out.trans (hb7.mono (by omega))⟩
end Go.Proofs.YtgkbgojgpomcdaaDoor
