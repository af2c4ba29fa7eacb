
/-
  barrowlaw14.does: Undo, Redo.
-/
import Derived.Test.YtgkbgojgpomcdaaDoorUn21
namespace Go.Proofs.YtgkbgojgpomcdaaDoor
open Go.RowKit Go.Extern.Stop Go.Stop Go.Extern
set_option maxRecDepth 100000

set_option maxHeartbeats 4000000 in
theorem does_undo_yes {N P Bs Br : Nat} {d u : List (List Xg)} {vd vu vd' vu' : Value} {F F' : Nat → Prop} {w : World} {vL : Value} {lL : List Xg} (h : PrAt N P Bs Br d u vd vu vd' vu' F F' w) (dd : Int) (hdd : -9223372036854775808 ≤ dd ∧ dd ≤ 9223372036854775807) (rd : Bool) {ad : Nat → Addr} (hLa : ∀ x, Below N w x → Laid ad x) (hL : ∀ x, Below N w x → SlD x vL lL) (hcap : ∀ a n c, vL = .slice a n c → n ≤ c) {n : Nat} {l : List Xg} (hn : d.length = n + 1) (hl : d[n]? = some l) (hm : wiN dd 6 = 1) :
    Calls Tryd.prog 10 #[.pointer (some ⟨P, 0, none⟩), .agg #[.int .i64 dd, .bool rd, vL]] w fun e w' => DoQ N P Bs Br w e w' := by
  have HWi := hid_of' (fun x => within_is dd 6 x (by decide) (by decide) hdd)
  rw [hm, show ((6 : Nat) : Int) = 6 from rfl, show ((1 : Nat) : Int) = 1 from rfl] at HWi
  obtain ⟨aL, cL, hvL⟩ := (hL w (Below.refl _ _)).form
  have HL := hid_of' (And.intro hL hcap)
  generalize lL.length = nL at hvL
  subst hvL
  have r0 := row_new w (#[.int .i64 dd, .bool rd, .slice aL nL cL]) 35
  have b0 := below_one w (.cells (#[.int .i64 dd, .bool rd, .slice aL nL cL]) 35)
  have HK := hid_of' h
  clear h hL hcap hm hdd
  go_enter Tryd.func10, Tryd.ntmps10
  go_upto_region 1 with fail
  change Code.wp _ _ _ _ (w.alloc (.cells (#[.int .i64 dd, .bool rd, .slice aL nL cL]) 35))
  generalize w.alloc (.cells (#[.int .i64 dd, .bool rd, .slice aL nL cL]) 35) = X0 at r0 b0 ⊢
  generalize hob : w.heap.size = ob at r0 ⊢
  have c0 := r0.cellIs 0 rfl
  have c1 := r0.cellIs 1 rfl
  have c2 := r0.cellIs 2 rfl
  have h := HK.out.later b0
  have p0 : X0.cell? ⟨P, 0, none⟩ = some (.pointer (some ⟨Bs, 0, none⟩)) := h.lies.cellIs 0 rfl
  have HLa := hid_of' hLa
  have H := hid_of' h
  clear h hLa
  have HU := hid_of' (undo_yes H.out.s hn hl)
  have hfl : l.length ≤ 4398046510976 := (H.out.s.rd.fits l (List.mem_of_getElem? hl)).2
  have HFl := hid_of' (Nat.le_trans (bkL_len l) hfl)
  clear hfl
  go_upto_region 10 with (first | (go_at_call 31; (with_reducible refine (HWi.out _).mono ?_); rintro e w1 ⟨rfl, h0⟩; obtain rfl := h0.symm) | (go_at_call 25; (with_reducible refine HU.out.mono ?_); rintro e w2 ⟨v2, vd2, vu2, F2, rfl, hv2, hn2, hk2, hc2, hf2⟩; clear HU; obtain ⟨a2, c2', hv9, _⟩ := Rw.form hv2.1; generalize List.length _ = n2 at hv9; subst hv9))
  obtain ⟨g1, g2, g3, g4, g5⟩ := H.out.goS hk2 hc2 hf2
  have p1 : w2.cell? ⟨P, 1, none⟩ = some (.pointer (some ⟨Br, 0, none⟩)) := g1.cellIs 1 rfl
  have HT := hid_of' (refUndo_yes g2 hn hl)
  have H2 := hid_of' (And.intro hv2 (And.intro hn2 (And.intro hk2 (And.intro hc2 (And.intro hf2 (And.intro g1 (And.intro g2 (And.intro g3 (And.intro g4 g5)))))))))
  clear p0 hv2 hn2 hk2 hc2 hf2 g1 g2 g3 g4 g5
  go_upto_region 11 with (first | (go_at_call 33; (with_reducible refine HT.out.mono ?_); rintro e w3 ⟨v3, vd3, vu3, F3, rfl, hv3, hk3, hc3, hf3⟩; clear HT; obtain ⟨a3, c3', hv9, _⟩ := Rw.form hv3.1; generalize List.length _ = n3 at hv9; subst hv9; have H3 := hid_of' (And.intro hv3 (And.intro hk3 (And.intro hc3 hf3))); clear hv3 hk3 hc3 hf3) | (refine wpL_storeNo rfl _ _ rfl rfl rfl (row_new w3 _ _) ?_))
  have r7 := (row_new w3 (nov 0 none 0 0 none 0 0) 47).put (nov 0 none 0 0 none 0 0)
  have b7 := below_row (below_one w3 (.cells (nov 0 none 0 0 none 0 0) 47)) (Nat.le_refl _) (nov 0 none 0 0 none 0 0)
  change Code.wp _ _ _ _ ((w3.alloc (.cells (nov 0 none 0 0 none 0 0) 47)).setRow w3.heap.size (nov 0 none 0 0 none 0 0))
  generalize (w3.alloc (.cells (nov 0 none 0 0 none 0 0) 47)).setRow w3.heap.size (nov 0 none 0 0 none 0 0) = W4 at r7 b7 ⊢
  generalize w3.heap.size = nb7 at r7 ⊢
  obtain ⟨hv2, hn2, hk2, hc2, hf2, g1, g2, g3, g4, g5⟩ := H2.out
  obtain ⟨hv3, hk3, hc3, hf3⟩ := H3.out
  have hP := (PrAt.goR g1 hk2 g2 g3 g4 H.out.pF' H.out.nP g5 H.out.nF' hk3 hc3 hf3).later b7
  have s2 := hc2.size
  have hv2F : ∀ k, Value.ownBlock (.slice a2 n2 c2') = some k → ¬ F' k := fun k hk q => by
    have := hv2.2 k hk
    have := H.out.r.lt k q
    omega
  have hl2 : ∀ k, Value.ownBlock (.slice a2 n2 c2') = some k → k < w2.heap.size := Rw.lt hv2.1
  have hv2' : RwX (.slice a2 n2 c2') (bkL l) W4 := (RwX.later (Rw.ch hv2.1 hc3 hv2F) b7)
  have hb4 : Below N w W4 := by
    have a1 : Below N w X0 := b0.mono HK.out.size
    have a2 := hc2.below (n := N) (fun s hs q => by have := H.out.nF s q; omega) H.out.size
    have a3 := hc3.below (n := N) (fun s hs q => by have := H.out.nF' s q; omega) (Nat.le_trans H.out.size hc2.size)
    exact ((a1.trans a2).trans a3).trans (b7.mono (Nat.le_trans (Nat.le_trans H.out.size hc2.size) hc3.size))
  have hS : ∀ k, Value.ownBlock (.slice a2 n2 c2') = some k → ¬ F2 k ∧ ¬ F3 k ∧ ¬ k = P := fun k hk => by
    refine ⟨hn2 k hk, fun q => ?_, fun q => ?_⟩
    · rcases hf3 k q with e | e
      · exact hv2F k hk e
      · have := hl2 k hk; omega
    · have := hv2.2 k hk
      have := H.out.lies.lt
      omega
  have HG := hid_of' (got_yes (HLa.out W4 hb4) hv2' ((hv3.1.later b7).sl) HFl.out)
  have HZ := hid_of' (And.intro hP (And.intro hS hb4))
  have hgeN : Hid (∀ k, Value.ownBlock (.slice a2 n2 c2') = some k → N ≤ k) := fun k hk => by have := hv2.2 k hk; have := H.out.size; omega
  have hszN : Hid (N ≤ W4.heap.size) := Nat.le_trans HK.out.size hb4.size
  clear hv2 hn2 hk2 hc2 hf2 g1 g2 g3 g4 g5 hv3 hk3 hc3 hf3 hP s2 hv2F hl2 hv2' hb4 hS p1 b7
  go_wp2_with (first | (refine wpL_loadNo rfl _ rfl rfl r7 rfl ?_) | (go_at_call 34; (with_reducible refine HG.out.mono ?_); rintro e w5 ⟨rfl, hc5⟩; clear HG))
  go_ret
  obtain ⟨hP, hS, hb4⟩ := HZ.out
  exact ⟨rfl, ⟨_, _, _, _, _, _, _, _, hP.ch hc5 hS⟩, hb4.trans (hc5.below (fun s hs q => by have := hgeN.out s q; omega) hszN.out)⟩
set_option maxHeartbeats 4000000 in
theorem does_undo_no {N P Bs Br : Nat} {d u : List (List Xg)} {vd vu vd' vu' : Value} {F F' : Nat → Prop} {w : World} {vL : Value} {lL : List Xg} (h : PrAt N P Bs Br d u vd vu vd' vu' F F' w) (dd : Int) (hdd : -9223372036854775808 ≤ dd ∧ dd ≤ 9223372036854775807) (rd : Bool) {ad : Nat → Addr} (hLa : ∀ x, Below N w x → Laid ad x) (hL : ∀ x, Below N w x → SlD x vL lL) (hcap : ∀ a n c, vL = .slice a n c → n ≤ c) (hem : d = []) (hm : wiN dd 6 = 1) :
    Calls Tryd.prog 10 #[.pointer (some ⟨P, 0, none⟩), .agg #[.int .i64 dd, .bool rd, vL]] w fun e w' => DoQ N P Bs Br w e w' := by
  have HWi := hid_of' (fun x => within_is dd 6 x (by decide) (by decide) hdd)
  rw [hm, show ((6 : Nat) : Int) = 6 from rfl, show ((1 : Nat) : Int) = 1 from rfl] at HWi
  obtain ⟨aL, cL, hvL⟩ := (hL w (Below.refl _ _)).form
  have HL := hid_of' (And.intro hL hcap)
  generalize lL.length = nL at hvL
  subst hvL
  have r0 := row_new w (#[.int .i64 dd, .bool rd, .slice aL nL cL]) 35
  have b0 := below_one w (.cells (#[.int .i64 dd, .bool rd, .slice aL nL cL]) 35)
  have HK := hid_of' h
  clear h hL hcap hm hdd
  go_enter Tryd.func10, Tryd.ntmps10
  go_upto_region 1 with fail
  change Code.wp _ _ _ _ (w.alloc (.cells (#[.int .i64 dd, .bool rd, .slice aL nL cL]) 35))
  generalize w.alloc (.cells (#[.int .i64 dd, .bool rd, .slice aL nL cL]) 35) = X0 at r0 b0 ⊢
  generalize hob : w.heap.size = ob at r0 ⊢
  have c0 := r0.cellIs 0 rfl
  have c1 := r0.cellIs 1 rfl
  have c2 := r0.cellIs 2 rfl
  have h := HK.out.later b0
  have p0 : X0.cell? ⟨P, 0, none⟩ = some (.pointer (some ⟨Bs, 0, none⟩)) := h.lies.cellIs 0 rfl
  have HLa := hid_of' hLa
  have H := hid_of' h
  clear h hLa
  have HU := hid_of' (undo_no (HLa.out X0 (b0.mono HK.out.size)).ln H.out.s hem)
  go_upto_region 10 with (first | (go_at_call 31; (with_reducible refine (HWi.out _).mono ?_); rintro e w1 ⟨rfl, h0⟩; obtain rfl := h0.symm) | (go_at_call 25; (with_reducible refine HU.out.mono ?_); rintro e w2 ⟨v2, rfl, he2, hb2⟩; clear HU; obtain ⟨b4, rfl, he2⟩ := he2))
  have p1 : w2.cell? ⟨P, 1, none⟩ = some (.pointer (some ⟨Br, 0, none⟩)) := (H.out.lies.later hb2).cellIs 1 rfl
  have HT := hid_of' (refUndo_no (H.out.r.later hb2) hem)
  have H2 := hid_of' (And.intro he2 hb2)
  clear p0 he2 hb2
  go_upto_region 11 with (first | (go_at_call 33; (with_reducible refine HT.out.mono ?_); rintro e w3 ⟨v3, rfl, hn3, hb3⟩; clear HT; have H3 := hid_of' (And.intro hn3 hb3); obtain ⟨g4, g4', rfl, _⟩ := hn3; clear hb3) | (refine wpL_storeNo rfl _ _ rfl rfl rfl (row_new w3 _ _) ?_))
  have r7 := (row_new w3 (nov 0 none 0 0 none 0 0) 47).put (nov (((11 : Nat) : Int) + 1) (some ⟨g4', 0, none⟩) 1 1 (some ⟨g4, 0, none⟩) 1 1)
  have b7 := below_row (below_one w3 (.cells (nov 0 none 0 0 none 0 0) 47)) (Nat.le_refl _) (nov (((11 : Nat) : Int) + 1) (some ⟨g4', 0, none⟩) 1 1 (some ⟨g4, 0, none⟩) 1 1)
  change Code.wp _ _ _ _ ((w3.alloc (.cells (nov 0 none 0 0 none 0 0) 47)).setRow w3.heap.size (nov (((11 : Nat) : Int) + 1) (some ⟨g4', 0, none⟩) 1 1 (some ⟨g4, 0, none⟩) 1 1))
  generalize (w3.alloc (.cells (nov 0 none 0 0 none 0 0) 47)).setRow w3.heap.size (nov (((11 : Nat) : Int) + 1) (some ⟨g4', 0, none⟩) 1 1 (some ⟨g4, 0, none⟩) 1 1) = W4 at r7 b7 ⊢
  generalize w3.heap.size = nb7 at r7 ⊢
  have hb4 : Below w.heap.size w W4 := bgo b0 (bgo H2.out.2 (bgo H3.out.2 b7))
  have HG := hid_of' (got_no (cc := bUndo) (HLa.out W4 (hb4.mono HK.out.size)) (RwX.nil W4) (.inl ⟨rfl, none, 0, rfl⟩) (by simp) (ErrR.later (ErrR.later (o := some (bUndo, -1, 11)) ⟨b4, rfl, H2.out.1⟩ H3.out.2) b7) (NoR.later H3.out.1 b7))
  rw [show (((11 : Nat) : Int) + 1) = 12 from rfl] at HG r7
  clear p1 b7
  go_wp2_with (first | (refine wpL_loadNo rfl _ rfl rfl r7 rfl ?_) | (go_at_call 34; (with_reducible refine HG.out.mono ?_); rintro e w5 ⟨rfl, hc5⟩; clear HG))
  go_ret
  have hb5 : Below W4.heap.size W4 w5 := hc5.none (fun s _ q => by cases q)
  exact ⟨rfl, ⟨_, _, _, _, _, _, _, _, HK.out.later (bgo hb4 hb5)⟩, (bgo hb4 hb5).mono HK.out.size⟩
set_option maxHeartbeats 4000000 in
theorem does_redo_yes {N P Bs Br : Nat} {d u : List (List Xg)} {vd vu vd' vu' : Value} {F F' : Nat → Prop} {w : World} {vL : Value} {lL : List Xg} (h : PrAt N P Bs Br d u vd vu vd' vu' F F' w) (dd : Int) (hdd : -9223372036854775808 ≤ dd ∧ dd ≤ 9223372036854775807) (rd : Bool) {ad : Nat → Addr} (hLa : ∀ x, Below N w x → Laid ad x) (hL : ∀ x, Below N w x → SlD x vL lL) (hcap : ∀ a n c, vL = .slice a n c → n ≤ c) {n : Nat} {l : List Xg} (hn : u.length = n + 1) (hl : u[n]? = some l) (hm : wiN dd 6 = 2) :
    Calls Tryd.prog 10 #[.pointer (some ⟨P, 0, none⟩), .agg #[.int .i64 dd, .bool rd, vL]] w fun e w' => DoQ N P Bs Br w e w' := by
  have HWi := hid_of' (fun x => within_is dd 6 x (by decide) (by decide) hdd)
  rw [hm, show ((6 : Nat) : Int) = 6 from rfl, show ((2 : Nat) : Int) = 2 from rfl] at HWi
  obtain ⟨aL, cL, hvL⟩ := (hL w (Below.refl _ _)).form
  have HL := hid_of' (And.intro hL hcap)
  generalize lL.length = nL at hvL
  subst hvL
  have r0 := row_new w (#[.int .i64 dd, .bool rd, .slice aL nL cL]) 35
  have b0 := below_one w (.cells (#[.int .i64 dd, .bool rd, .slice aL nL cL]) 35)
  have HK := hid_of' h
  clear h hL hcap hm hdd
  go_enter Tryd.func10, Tryd.ntmps10
  go_upto_region 1 with fail
  change Code.wp _ _ _ _ (w.alloc (.cells (#[.int .i64 dd, .bool rd, .slice aL nL cL]) 35))
  generalize w.alloc (.cells (#[.int .i64 dd, .bool rd, .slice aL nL cL]) 35) = X0 at r0 b0 ⊢
  generalize hob : w.heap.size = ob at r0 ⊢
  have c0 := r0.cellIs 0 rfl
  have c1 := r0.cellIs 1 rfl
  have c2 := r0.cellIs 2 rfl
  have h := HK.out.later b0
  have p0 : X0.cell? ⟨P, 0, none⟩ = some (.pointer (some ⟨Bs, 0, none⟩)) := h.lies.cellIs 0 rfl
  have HLa := hid_of' hLa
  have H := hid_of' h
  clear h hLa
  have HU := hid_of' (redo_yes H.out.s hn hl)
  have hfl : l.length ≤ 4398046510976 := (H.out.s.ru.fits l (List.mem_of_getElem? hl)).2
  have HFl := hid_of' (Nat.le_trans (agL_len l) hfl)
  clear hfl
  go_upto_region 14 with (first | (go_at_call 31; (with_reducible refine (HWi.out _).mono ?_); rintro e w1 ⟨rfl, h0⟩; obtain rfl := h0.symm) | (go_at_call 26; (with_reducible refine HU.out.mono ?_); rintro e w2 ⟨v2, vd2, vu2, F2, rfl, hv2, hn2, hk2, hc2, hf2⟩; clear HU; obtain ⟨a2, c2', hv9, _⟩ := Rw.form hv2.1; generalize List.length _ = n2 at hv9; subst hv9))
  obtain ⟨g1, g2, g3, g4, g5⟩ := H.out.goS hk2 hc2 hf2
  have p1 : w2.cell? ⟨P, 1, none⟩ = some (.pointer (some ⟨Br, 0, none⟩)) := g1.cellIs 1 rfl
  have HT := hid_of' (refRedo_yes g2 hn hl)
  have H2 := hid_of' (And.intro hv2 (And.intro hn2 (And.intro hk2 (And.intro hc2 (And.intro hf2 (And.intro g1 (And.intro g2 (And.intro g3 (And.intro g4 g5)))))))))
  clear p0 hv2 hn2 hk2 hc2 hf2 g1 g2 g3 g4 g5
  go_upto_region 15 with (first | (go_at_call 33; (with_reducible refine HT.out.mono ?_); rintro e w3 ⟨v3, vd3, vu3, F3, rfl, hv3, hk3, hc3, hf3⟩; clear HT; obtain ⟨a3, c3', hv9, _⟩ := Rw.form hv3.1; generalize List.length _ = n3 at hv9; subst hv9; have H3 := hid_of' (And.intro hv3 (And.intro hk3 (And.intro hc3 hf3))); clear hv3 hk3 hc3 hf3) | (refine wpL_storeNo rfl _ _ rfl rfl rfl (row_new w3 _ _) ?_))
  have r7 := (row_new w3 (nov 0 none 0 0 none 0 0) 47).put (nov 0 none 0 0 none 0 0)
  have b7 := below_row (below_one w3 (.cells (nov 0 none 0 0 none 0 0) 47)) (Nat.le_refl _) (nov 0 none 0 0 none 0 0)
  change Code.wp _ _ _ _ ((w3.alloc (.cells (nov 0 none 0 0 none 0 0) 47)).setRow w3.heap.size (nov 0 none 0 0 none 0 0))
  generalize (w3.alloc (.cells (nov 0 none 0 0 none 0 0) 47)).setRow w3.heap.size (nov 0 none 0 0 none 0 0) = W4 at r7 b7 ⊢
  generalize w3.heap.size = nb7 at r7 ⊢
  obtain ⟨hv2, hn2, hk2, hc2, hf2, g1, g2, g3, g4, g5⟩ := H2.out
  obtain ⟨hv3, hk3, hc3, hf3⟩ := H3.out
  have hP := (PrAt.goR g1 hk2 g2 g3 g4 H.out.pF' H.out.nP g5 H.out.nF' hk3 hc3 hf3).later b7
  have s2 := hc2.size
  have hv2F : ∀ k, Value.ownBlock (.slice a2 n2 c2') = some k → ¬ F' k := fun k hk q => by
    have := hv2.2 k hk
    have := H.out.r.lt k q
    omega
  have hl2 : ∀ k, Value.ownBlock (.slice a2 n2 c2') = some k → k < w2.heap.size := Rw.lt hv2.1
  have hv2' : RwX (.slice a2 n2 c2') (agL l) W4 := (RwX.later (Rw.ch hv2.1 hc3 hv2F) b7)
  have hb4 : Below N w W4 := by
    have a1 : Below N w X0 := b0.mono HK.out.size
    have a2 := hc2.below (n := N) (fun s hs q => by have := H.out.nF s q; omega) H.out.size
    have a3 := hc3.below (n := N) (fun s hs q => by have := H.out.nF' s q; omega) (Nat.le_trans H.out.size hc2.size)
    exact ((a1.trans a2).trans a3).trans (b7.mono (Nat.le_trans (Nat.le_trans H.out.size hc2.size) hc3.size))
  have hS : ∀ k, Value.ownBlock (.slice a2 n2 c2') = some k → ¬ F2 k ∧ ¬ F3 k ∧ ¬ k = P := fun k hk => by
    refine ⟨hn2 k hk, fun q => ?_, fun q => ?_⟩
    · rcases hf3 k q with e | e
      · exact hv2F k hk e
      · have := hl2 k hk; omega
    · have := hv2.2 k hk
      have := H.out.lies.lt
      omega
  have HG := hid_of' (got_yes (HLa.out W4 hb4) hv2' ((hv3.1.later b7).sl) HFl.out)
  have HZ := hid_of' (And.intro hP (And.intro hS hb4))
  have hgeN : Hid (∀ k, Value.ownBlock (.slice a2 n2 c2') = some k → N ≤ k) := fun k hk => by have := hv2.2 k hk; have := H.out.size; omega
  have hszN : Hid (N ≤ W4.heap.size) := Nat.le_trans HK.out.size hb4.size
  clear hv2 hn2 hk2 hc2 hf2 g1 g2 g3 g4 g5 hv3 hk3 hc3 hf3 hP s2 hv2F hl2 hv2' hb4 hS p1 b7
  go_wp2_with (first | (refine wpL_loadNo rfl _ rfl rfl r7 rfl ?_) | (go_at_call 34; (with_reducible refine HG.out.mono ?_); rintro e w5 ⟨rfl, hc5⟩; clear HG))
  go_ret
  obtain ⟨hP, hS, hb4⟩ := HZ.out
  exact ⟨rfl, ⟨_, _, _, _, _, _, _, _, hP.ch hc5 hS⟩, hb4.trans (hc5.below (fun s hs q => by have := hgeN.out s q; omega) hszN.out)⟩
set_option maxHeartbeats 4000000 in
theorem does_redo_no {N P Bs Br : Nat} {d u : List (List Xg)} {vd vu vd' vu' : Value} {F F' : Nat → Prop} {w : World} {vL : Value} {lL : List Xg} (h : PrAt N P Bs Br d u vd vu vd' vu' F F' w) (dd : Int) (hdd : -9223372036854775808 ≤ dd ∧ dd ≤ 9223372036854775807) (rd : Bool) {ad : Nat → Addr} (hLa : ∀ x, Below N w x → Laid ad x) (hL : ∀ x, Below N w x → SlD x vL lL) (hcap : ∀ a n c, vL = .slice a n c → n ≤ c) (hem : u = []) (hm : wiN dd 6 = 2) :
    Calls Tryd.prog 10 #[.pointer (some ⟨P, 0, none⟩), .agg #[.int .i64 dd, .bool rd, vL]] w fun e w' => DoQ N P Bs Br w e w' := by
  have HWi := hid_of' (fun x => within_is dd 6 x (by decide) (by decide) hdd)
  rw [hm, show ((6 : Nat) : Int) = 6 from rfl, show ((2 : Nat) : Int) = 2 from rfl] at HWi
  obtain ⟨aL, cL, hvL⟩ := (hL w (Below.refl _ _)).form
  have HL := hid_of' (And.intro hL hcap)
  generalize lL.length = nL at hvL
  subst hvL
  have r0 := row_new w (#[.int .i64 dd, .bool rd, .slice aL nL cL]) 35
  have b0 := below_one w (.cells (#[.int .i64 dd, .bool rd, .slice aL nL cL]) 35)
  have HK := hid_of' h
  clear h hL hcap hm hdd
  go_enter Tryd.func10, Tryd.ntmps10
  go_upto_region 1 with fail
  change Code.wp _ _ _ _ (w.alloc (.cells (#[.int .i64 dd, .bool rd, .slice aL nL cL]) 35))
  generalize w.alloc (.cells (#[.int .i64 dd, .bool rd, .slice aL nL cL]) 35) = X0 at r0 b0 ⊢
  generalize hob : w.heap.size = ob at r0 ⊢
  have c0 := r0.cellIs 0 rfl
  have c1 := r0.cellIs 1 rfl
  have c2 := r0.cellIs 2 rfl
  have h := HK.out.later b0
  have p0 : X0.cell? ⟨P, 0, none⟩ = some (.pointer (some ⟨Bs, 0, none⟩)) := h.lies.cellIs 0 rfl
  have HLa := hid_of' hLa
  have H := hid_of' h
  clear h hLa
  have HU := hid_of' (redo_no (HLa.out X0 (b0.mono HK.out.size)).ln H.out.s hem)
  go_upto_region 14 with (first | (go_at_call 31; (with_reducible refine (HWi.out _).mono ?_); rintro e w1 ⟨rfl, h0⟩; obtain rfl := h0.symm) | (go_at_call 26; (with_reducible refine HU.out.mono ?_); rintro e w2 ⟨v2, rfl, he2, hb2⟩; clear HU; obtain ⟨b4, rfl, he2⟩ := he2))
  have p1 : w2.cell? ⟨P, 1, none⟩ = some (.pointer (some ⟨Br, 0, none⟩)) := (H.out.lies.later hb2).cellIs 1 rfl
  have HT := hid_of' (refRedo_no (H.out.r.later hb2) hem)
  have H2 := hid_of' (And.intro he2 hb2)
  clear p0 he2 hb2
  go_upto_region 15 with (first | (go_at_call 33; (with_reducible refine HT.out.mono ?_); rintro e w3 ⟨v3, rfl, hn3, hb3⟩; clear HT; have H3 := hid_of' (And.intro hn3 hb3); obtain ⟨g4, g4', rfl, _⟩ := hn3; clear hb3) | (refine wpL_storeNo rfl _ _ rfl rfl rfl (row_new w3 _ _) ?_))
  have r7 := (row_new w3 (nov 0 none 0 0 none 0 0) 47).put (nov (((11 : Nat) : Int) + 1) (some ⟨g4', 0, none⟩) 1 1 (some ⟨g4, 0, none⟩) 1 1)
  have b7 := below_row (below_one w3 (.cells (nov 0 none 0 0 none 0 0) 47)) (Nat.le_refl _) (nov (((11 : Nat) : Int) + 1) (some ⟨g4', 0, none⟩) 1 1 (some ⟨g4, 0, none⟩) 1 1)
  change Code.wp _ _ _ _ ((w3.alloc (.cells (nov 0 none 0 0 none 0 0) 47)).setRow w3.heap.size (nov (((11 : Nat) : Int) + 1) (some ⟨g4', 0, none⟩) 1 1 (some ⟨g4, 0, none⟩) 1 1))
  generalize (w3.alloc (.cells (nov 0 none 0 0 none 0 0) 47)).setRow w3.heap.size (nov (((11 : Nat) : Int) + 1) (some ⟨g4', 0, none⟩) 1 1 (some ⟨g4, 0, none⟩) 1 1) = W4 at r7 b7 ⊢
  generalize w3.heap.size = nb7 at r7 ⊢
  have hb4 : Below w.heap.size w W4 := bgo b0 (bgo H2.out.2 (bgo H3.out.2 b7))
  have HG := hid_of' (got_no (cc := bRedo) (HLa.out W4 (hb4.mono HK.out.size)) (RwX.nil W4) (.inl ⟨rfl, none, 0, rfl⟩) (by simp) (ErrR.later (ErrR.later (o := some (bRedo, -1, 11)) ⟨b4, rfl, H2.out.1⟩ H3.out.2) b7) (NoR.later H3.out.1 b7))
  rw [show (((11 : Nat) : Int) + 1) = 12 from rfl] at HG r7
  clear p1 b7
  go_wp2_with (first | (refine wpL_loadNo rfl _ rfl rfl r7 rfl ?_) | (go_at_call 34; (with_reducible refine HG.out.mono ?_); rintro e w5 ⟨rfl, hc5⟩; clear HG))
  go_ret
  have hb5 : Below W4.heap.size W4 w5 := hc5.none (fun s _ q => by cases q)
  exact ⟨rfl, ⟨_, _, _, _, _, _, _, _, HK.out.later (bgo hb4 hb5)⟩, (bgo hb4 hb5).mono HK.out.size⟩
end Go.Proofs.YtgkbgojgpomcdaaDoor
