/-
  barrowlaw04.TreeNews.
-/
import Derived.Test.YtcfefgcibdpmeabDoorTrWake
namespace Go.Proofs.YtcfefgcibdpmeabDoor
open Go.RowKit Go.Extern.Stop Go.Stop Go.Extern
set_option maxRecDepth 100000

theorem wpL_loadNo {ops : Array Oper} {rest : List Oper} {o : Oper} {A : Act} {w : World} {Q : Exit → Act → World → Prop} (hgd : o.guard = none) (x : Operand) (ho : o.op = .load 35 x) {g : Nat} (hx : A.eval x = .pointer (some ⟨g, 0, none⟩)) {code : Int} {a a' : Option Addr} {n c n' c' : Nat} (h : RowAt g (nov code a n c a' n' c') 35 w)
    (k : wpList Tryd.prog ops Q rest (A.put o.dst (.agg (nov code a n c a' n' c'))) w) : wpList Tryd.prog ops Q (o :: rest) A w :=
  wpList_load_row hgd _ x ho g hx _ _ _ _ h Tryd.underlying35 rfl no_size k
/-- 'x'. -/
def ex : El := ⟨0, 0, 0, 120, 0⟩

set_option maxHeartbeats 4000000 in
theorem news_bad {ad : Nat → Addr} (ch : Int) (u : Value) (w : World) (L : Laid ad w) (h : ch < 2 ∨ 64 < ch) :
    Calls Tryd.prog 3 #[.int .i64 ch, u] w fun r w' => r = .returned (.bool true) ∧ Below w.heap.size w w' := by
  have HN := hid_of' (new_bad ch w L h)
  have HZ := hid_of' L
  have HS : Hid (∀ x, _) := fun x => say_any bTree bNew ch 1 x rfl
  clear L
  have hc : (¬ ch < 2 ∧ 64 < ch) ∨ ch < 2 := by omega
  have fin : ∀ (w1 : World) (_ : FaultAt ad w.heap.size bTree bNew (place ch) 0 w1) (_ : Below w.heap.size w w1) (w2 : World) (g g' : Nat) (_ : (w1.alloc (.cells #[.int .i64 0, .slice none 0 0, .slice none 0 0] 35)).heap.size ≤ g') (_ : CsIn g' 0 #[.string bTree, .string bNew, .int .i64 (place ch)] w2) (_ : CsIn g 0 #[.int .i64 1] w2) (_ : (w1.alloc (.cells #[.int .i64 0, .slice none 0 0, .slice none 0 0] 35)).heap.size ≤ g) (_ : Below (w1.alloc (.cells #[.int .i64 0, .slice none 0 0, .slice none 0 0] 35)).heap.size (w1.alloc (.cells #[.int .i64 0, .slice none 0 0, .slice none 0 0] 35)) w2),
      RowAt w1.heap.size (nov 1 (some ⟨g', 0, none⟩) 1 1 (some ⟨g, 0, none⟩) 1 1) 35 (w2.setRow w1.heap.size (nov 1 (some ⟨g', 0, none⟩) 1 1 (some ⟨g, 0, none⟩) 1 1)) ∧ Below w.heap.size w (w2.setRow w1.heap.size (nov 1 (some ⟨g', 0, none⟩) 1 1 (some ⟨g, 0, none⟩) 1 1)) ∧ Calls Tryd.prog 6 #[.iface 70 (.pointer (some ⟨w.heap.size, 0, none⟩)), .agg (nov 1 (some ⟨g', 0, none⟩) 1 1 (some ⟨g, 0, none⟩) 1 1)] (w2.setRow w1.heap.size (nov 1 (some ⟨g', 0, none⟩) 1 1 (some ⟨g, 0, none⟩) 1 1)) fun e w' => e = .returned (.bool true) ∧ Below (w2.setRow w1.heap.size (nov 1 (some ⟨g', 0, none⟩) 1 1 (some ⟨g, 0, none⟩) 1 1)).heap.size (w2.setRow w1.heap.size (nov 1 (some ⟨g', 0, none⟩) 1 1 (some ⟨g, 0, none⟩) 1 1)) w' := by
    intro w1 hf hb1 w2 g g' hg' hc1 hc2 hg hb2
    rw [World.size_alloc] at hg hg'
    have hlt := RowAt.lt hf
    have hr := ((row_new w1 #[.int .i64 0, .slice none 0 0, .slice none 0 0] 35).later hb2).put (nov 1 (some ⟨g', 0, none⟩) 1 1 (some ⟨g, 0, none⟩) 1 1)
    have hB := below_row (bgo (bgo hb1 (below_one _ _)) hb2) (show w.heap.size ≤ w1.heap.size from hb1.size) (nov 1 (some ⟨g', 0, none⟩) 1 1 (some ⟨g, 0, none⟩) 1 1)
    exact ⟨hr, hB, refused_some (k := 0) (HZ.out.below hB) (((RowAt.later hf (below_one _ _)).later hb2).other _ _ (by omega)) (by decide) (hc1.other _ _ (by omega)) (hc2.other _ _ (by omega))⟩
  rcases hc with ⟨h1, h2⟩ | h1
  · go_enter Tryd.func3, Tryd.ntmps3
    go_upto_region 5 with (first | (go_at_call 4; refine HN.out.mono ?_; rintro r w1 ⟨rfl, hf, hb1⟩) | (go_at_call 5; refine (HS.out _).mono ?_; rintro r w2 ⟨g, g', rfl, hg', hg, hc1, hc2, hb2⟩) | (refine wpL_storeNo rfl _ _ rfl rfl rfl ((row_new w1 _ _).later hb2) ?_))
    obtain ⟨h5, hB, HR⟩ := fin w1 hf hb1 w2 g g' hg' hc1 hc2 hg hb2
    clear fin HN HS HZ hf hb1 hb2 hc1 hc2 hg hg'
    simp only [Act.put]
    have HR' := hid_of' HR
    clear HR
    go_wp2_with (first | (refine wpL_loadNo rfl _ rfl rfl h5 ?_) | (go_at_call 6; refine HR'.out.mono ?_; rintro r w3 ⟨rfl, hb3⟩) | (go_at_call 7; refine (wakesT_ok _).mono ?_; rintro r w4 ⟨rfl, hb4⟩))
    go_ret
    exact ⟨rfl, bgo (bgo hB hb3) hb4⟩
  · go_enter Tryd.func3, Tryd.ntmps3
    go_upto_region 5 with (first | (go_at_call 4; refine HN.out.mono ?_; rintro r w1 ⟨rfl, hf, hb1⟩) | (go_at_call 5; refine (HS.out _).mono ?_; rintro r w2 ⟨g, g', rfl, hg', hg, hc1, hc2, hb2⟩) | (refine wpL_storeNo rfl _ _ rfl rfl rfl ((row_new w1 _ _).later hb2) ?_))
    obtain ⟨h5, hB, HR⟩ := fin w1 hf hb1 w2 g g' hg' hc1 hc2 hg hb2
    clear fin HN HS HZ hf hb1 hb2 hc1 hc2 hg hg'
    simp only [Act.put]
    have HR' := hid_of' HR
    clear HR
    go_wp2_with (first | (refine wpL_loadNo rfl _ rfl rfl h5 ?_) | (go_at_call 6; refine HR'.out.mono ?_; rintro r w3 ⟨rfl, hb3⟩) | (go_at_call 7; refine (wakesT_ok _).mono ?_; rintro r w4 ⟨rfl, hb4⟩))
    go_ret
    exact ⟨rfl, bgo (bgo hB hb3) hb4⟩

set_option maxHeartbeats 8000000 in
theorem news_none (ch : Nat) (a : Option Addr) (c : Nat) (w : World) (h1 : 2 ≤ ch) (h2 : ch ≤ 64) :
    Calls Tryd.prog 3 #[.int .i64 (ch : Int), .slice a 0 c] w fun r w' => r = .returned (.bool true) ∧ Below w.heap.size w w' := by
  have e1 : ¬ (ch : Int) < 2 := by omega
  have e2 : ¬ (64 : Int) < (ch : Int) := by omega
  have HN : Hid (∀ x, _) := fun x => new_ok ch x h1 h2
  unfold pv at HN
  go_enter Tryd.func3, Tryd.ntmps3
  go_upto_region 5 with (go_at_call 4; refine (HN.out _).mono ?_; rintro r w1 ⟨rfl, t1, hb1⟩)
  have r5 := row_new w1 (nov 0 none 0 0 none 0 0) 35
  have k1 := t1.later (below_one w1 (.cells (nov 0 none 0 0 none 0 0) 35))
  have k2 := bgo hb1 (below_one w1 (.cells (nov 0 none 0 0 none 0 0) 35))
  clear t1 hb1
  go_upto_region 9 with (first | (refine wpL_loadNo rfl _ rfl rfl r5 ?_) | (go_at_call 6; refine (refused_none _ _ _ _ _ _ _).mono ?_; rintro r w3 ⟨rfl, hb3⟩))
  replace k1 := k1.later hb3
  replace k2 := bgo k2 hb3
  clear hb3 r5
  have hto := k1.lt
  go_upto_region 10 with (go_at_call 4; refine (HN.out _).mono ?_; rintro r w9 ⟨rfl, o9, hb9⟩)
  replace k1 := k1.later hb9
  replace k2 := bgo k2 hb9
  clear hb9 HN
  have HI := hid_of' (insert_nil w3.heap.size ch [ex] (.slice (some ⟨w9.heap.size, 0, none⟩) 1 1) (w9.alloc (.cells (ecells [ex]).toArray 31)) (o9.later (below_one _ _)) (sl_new w9 [ex] 1 1 rfl) (by decide) (by simp) (by omega) h2)
  simp only [ecells, ex, pv] at HI
  go_upto_region 12 with (go_at_call 8; refine HI.out.mono ?_; rintro r wA ⟨rfl, w2, t2, rfl, hb2, a1, a2, a3⟩; clear HI)
  have a3' : t2.els = [ex] := a3
  have o1 := ((o9.later (below_one _ _)).later hb2).putCell (pv t2.blk)
  have o2 := a1.put (pv t2.blk) a2 ((o9.later (below_one _ _)).later hb2)
  have kA := ((k1.later (below_one _ _)).later hb2).otherP ⟨w3.heap.size, 1, none⟩ (pv t2.blk) (by show ¬ w.heap.size = w3.heap.size; omega)
  have hBA := (bgo (bgo k2 (below_one _ _)) hb2).setCell (p := ⟨w3.heap.size, 1, none⟩) (by show w.heap.size ≤ w3.heap.size; omega) (pv t2.blk)
  obtain ⟨ob, hob⟩ : ∃ ob, w3.heap.size = ob := ⟨_, rfl⟩
  rw [hob] at o1 o2 kA hBA hto ⊢
  unfold pv at o1 o2 kA hBA
  clear a1 a3 hb2 k1 k2 o9 hob
  generalize w2.setCell ⟨ob, 1, none⟩ (.pointer (some ⟨t2.blk, 0, none⟩)) = A at *
  have HJ := hid_of' (insert_none w.heap.size ch a c A kA)
  unfold pv at HJ
  go_upto_region 15 with (go_at_call 8; refine HJ.out.mono ?_; rintro r wB ⟨rfl, hw⟩; obtain rfl := hw.symm; clear HJ)
  obtain ⟨B, hAB⟩ : ∃ B, A = B := ⟨_, rfl⟩
  subst hAB
  have b1 := o1
  have b2 := o2
  have b3 : TrAt w.heap.size ch [] A := .inl ⟨rfl, kA⟩
  have hBB := hBA
  clear o1 o2 kA hBA
  have HA : Hid (Calls Tryd.prog 9 #[.pointer (some ⟨ob, 0, none⟩), .int .i64 0] A fun r w' => r = .returned (.tuple #[.agg (ev ex), .nilIface]) ∧ Below A.heap.size A w') := at_ok (ch := ch) 0 ex b1 b2 a2 (by rw [a3']; decide) (by rw [a3']; rfl)
  have HLo : Hid (∀ x, Below A.heap.size A x → Calls Tryd.prog 10 #[.pointer (some ⟨ob, 0, none⟩)] x fun r w' => r = .returned (.int .i64 1) ∧ w' = x) := fun x hx => by
    have := len_any (b := ob) (ch := ch) (.inr ⟨t2, b1.later hx, b2.later hx, a2, a3'⟩)
    exact this
  have HLt : Hid (∀ x, Below A.heap.size A x → Calls Tryd.prog 10 #[.pointer (some ⟨w.heap.size, 0, none⟩)] x fun r w' => r = .returned (.int .i64 (0 : Int)) ∧ w' = x) := fun x hx => by
    have := len_any (b := w.heap.size) (ch := ch) (b3.later hx)
    skip
    exact this
  have HX := hid_of' (show ¬ w.heap.size = ob by omega)
  clear b1 b2 b3 a2 a3'
  go_upto_region 16 with (first | (go_at_call 9; refine HA.out.mono ?_; rintro r w5 ⟨rfl, hb5⟩; clear HA) | (refine wpL_storeE rfl _ _ rfl rfl rfl (row_new w5 _ _) ?_))
  have hr6 := (row_new w5 #[.int .i64 0, .int .i64 0, .int .i64 0, .int .i32 0, .int .i64 0] 31).put (ev ex)
  have hb6 : Below w5.heap.size w5 ((w5.alloc (.cells #[.int .i64 0, .int .i64 0, .int .i64 0, .int .i32 0, .int .i64 0] 31)).setRow w5.heap.size (ev ex)) := below_row (below_one _ _) (by omega) _
  have hBB6 := bgo hb5 hb6
  have hB6 := bgo hBB hBB6
  generalize (w5.alloc (.cells #[.int .i64 0, .int .i64 0, .int .i64 0, .int .i32 0, .int .i64 0] 31)).setRow w5.heap.size (ev ex) = W6 at *
  have c6 : W6.cell? ⟨w5.heap.size, 3, none⟩ = some (.int .i32 120) := hr6.cell 3
  go_wp2_with (first | (go_at_call_of 10 (Value.pointer (some ⟨ob, 0, none⟩)); refine (HLo.out _ hBB6).mono ?_; rintro r w7 ⟨rfl, hw⟩; obtain rfl := hw.symm) | (go_at_call_of 10 (Value.pointer (some ⟨w.heap.size, 0, none⟩)); refine (HLt.out _ hBB6).mono ?_; rintro r w7 ⟨rfl, hw⟩; obtain rfl := hw.symm) | (go_at_call 7; refine (wakesT_ok _).mono ?_; rintro r w8 ⟨rfl, hb8⟩))
  go_ret
  exact ⟨rfl, bgo hB6 hb8⟩

set_option maxHeartbeats 8000000 in
theorem news_small (ch : Nat) (l : List El) (a : Option Addr) (c : Nat) (w : World) (hu : SlE w (.slice a l.length c) (l)) (h1 : 2 ≤ ch) (h2 : ch ≤ 64) (hl0 : l ≠ []) (hl : l.length ≤ 60) :
    Calls Tryd.prog 3 #[.int .i64 (ch : Int), .slice a l.length c] w fun r w' => r = .returned (.bool true) ∧ Below w.heap.size w w' := by
  have e1 : ¬ (ch : Int) < 2 := by omega
  have e2 : ¬ (64 : Int) < (ch : Int) := by omega
  have HN : Hid (∀ x, _) := fun x => new_ok ch x h1 h2
  unfold pv at HN
  go_enter Tryd.func3, Tryd.ntmps3
  go_upto_region 5 with (go_at_call 4; refine (HN.out _).mono ?_; rintro r w1 ⟨rfl, t1, hb1⟩)
  have r5 := row_new w1 (nov 0 none 0 0 none 0 0) 35
  have k1 := t1.later (below_one w1 (.cells (nov 0 none 0 0 none 0 0) 35))
  have k2 := bgo hb1 (below_one w1 (.cells (nov 0 none 0 0 none 0 0) 35))
  clear t1 hb1
  go_upto_region 9 with (first | (refine wpL_loadNo rfl _ rfl rfl r5 ?_) | (go_at_call 6; refine (refused_none _ _ _ _ _ _ _).mono ?_; rintro r w3 ⟨rfl, hb3⟩))
  replace k1 := k1.later hb3
  replace k2 := bgo k2 hb3
  clear hb3 r5
  have hto := k1.lt
  go_upto_region 10 with (go_at_call 4; refine (HN.out _).mono ?_; rintro r w9 ⟨rfl, o9, hb9⟩)
  replace k1 := k1.later hb9
  replace k2 := bgo k2 hb9
  clear hb9 HN
  have HI := hid_of' (insert_nil w3.heap.size ch [ex] (.slice (some ⟨w9.heap.size, 0, none⟩) 1 1) (w9.alloc (.cells (ecells [ex]).toArray 31)) (o9.later (below_one _ _)) (sl_new w9 [ex] 1 1 rfl) (by decide) (by simp) (by omega) h2)
  simp only [ecells, ex, pv] at HI
  go_upto_region 12 with (go_at_call 8; refine HI.out.mono ?_; rintro r wA ⟨rfl, w2, t2, rfl, hb2, a1, a2, a3⟩; clear HI)
  have a3' : t2.els = [ex] := a3
  have o1 := ((o9.later (below_one _ _)).later hb2).putCell (pv t2.blk)
  have o2 := a1.put (pv t2.blk) a2 ((o9.later (below_one _ _)).later hb2)
  have kA := ((k1.later (below_one _ _)).later hb2).otherP ⟨w3.heap.size, 1, none⟩ (pv t2.blk) (by show ¬ w.heap.size = w3.heap.size; omega)
  have hBA := (bgo (bgo k2 (below_one _ _)) hb2).setCell (p := ⟨w3.heap.size, 1, none⟩) (by show w.heap.size ≤ w3.heap.size; omega) (pv t2.blk)
  obtain ⟨ob, hob⟩ : ∃ ob, w3.heap.size = ob := ⟨_, rfl⟩
  rw [hob] at o1 o2 kA hBA hto ⊢
  unfold pv at o1 o2 kA hBA
  clear a1 a3 hb2 k1 k2 o9 hob
  generalize w2.setCell ⟨ob, 1, none⟩ (.pointer (some ⟨t2.blk, 0, none⟩)) = A at *
  have HJ := hid_of' (insert_nil w.heap.size ch (l) (.slice a l.length c) A kA (hu.later hBA) (by omega) hl0 (by omega) h2)
  unfold pv at HJ
  have hl6 : ¬ (60 : Int) < (l.length : Int) := by omega
  go_upto_region 15 with (go_at_call 8; refine HJ.out.mono ?_; rintro r wB ⟨rfl, w4, t4, rfl, hb4, d1, d2, d3⟩; clear HJ)
  have b1 := (o1.later hb4).otherP ⟨w.heap.size, 1, none⟩ (pv t4.blk) (by show ¬ ob = w.heap.size; omega)
  have b2 := (o2.later hb4).put (pv t4.blk) a2 (kA.later hb4)
  have b3 : TrAt w.heap.size ch (l) (w4.setCell ⟨w.heap.size, 1, none⟩ (pv t4.blk)) := .inr ⟨t4, (kA.later hb4).putCell (pv t4.blk), d1.put (pv t4.blk) d2 (kA.later hb4), d2, d3⟩
  have hBB := (bgo hBA hb4).setCell (p := ⟨w.heap.size, 1, none⟩) (by show w.heap.size ≤ w.heap.size; omega) (pv t4.blk)
  unfold pv at b1 b2 b3 hBB
  clear o1 o2 kA hBA hb4 d1 d2 d3 hu
  generalize w4.setCell ⟨w.heap.size, 1, none⟩ (.pointer (some ⟨t4.blk, 0, none⟩)) = B at *
  have HA : Hid (Calls Tryd.prog 9 #[.pointer (some ⟨ob, 0, none⟩), .int .i64 0] B fun r w' => r = .returned (.tuple #[.agg (ev ex), .nilIface]) ∧ Below B.heap.size B w') := at_ok (ch := ch) 0 ex b1 b2 a2 (by rw [a3']; decide) (by rw [a3']; rfl)
  have HLo : Hid (∀ x, Below B.heap.size B x → Calls Tryd.prog 10 #[.pointer (some ⟨ob, 0, none⟩)] x fun r w' => r = .returned (.int .i64 1) ∧ w' = x) := fun x hx => by
    have := len_any (b := ob) (ch := ch) (.inr ⟨t2, b1.later hx, b2.later hx, a2, a3'⟩)
    exact this
  have HLt : Hid (∀ x, Below B.heap.size B x → Calls Tryd.prog 10 #[.pointer (some ⟨w.heap.size, 0, none⟩)] x fun r w' => r = .returned (.int .i64 (l.length : Int)) ∧ w' = x) := fun x hx => by
    have := len_any (b := w.heap.size) (ch := ch) (b3.later hx)
    skip
    exact this
  have HX := hid_of' (show ¬ w.heap.size = ob by omega)
  clear b1 b2 b3 a2 a3'
  go_upto_region 16 with (first | (go_at_call 9; refine HA.out.mono ?_; rintro r w5 ⟨rfl, hb5⟩; clear HA) | (refine wpL_storeE rfl _ _ rfl rfl rfl (row_new w5 _ _) ?_))
  have hr6 := (row_new w5 #[.int .i64 0, .int .i64 0, .int .i64 0, .int .i32 0, .int .i64 0] 31).put (ev ex)
  have hb6 : Below w5.heap.size w5 ((w5.alloc (.cells #[.int .i64 0, .int .i64 0, .int .i64 0, .int .i32 0, .int .i64 0] 31)).setRow w5.heap.size (ev ex)) := below_row (below_one _ _) (by omega) _
  have hBB6 := bgo hb5 hb6
  have hB6 := bgo hBB hBB6
  generalize (w5.alloc (.cells #[.int .i64 0, .int .i64 0, .int .i64 0, .int .i32 0, .int .i64 0] 31)).setRow w5.heap.size (ev ex) = W6 at *
  have c6 : W6.cell? ⟨w5.heap.size, 3, none⟩ = some (.int .i32 120) := hr6.cell 3
  go_wp2_with (first | (go_at_call_of 10 (Value.pointer (some ⟨ob, 0, none⟩)); refine (HLo.out _ hBB6).mono ?_; rintro r w7 ⟨rfl, hw⟩; obtain rfl := hw.symm) | (go_at_call_of 10 (Value.pointer (some ⟨w.heap.size, 0, none⟩)); refine (HLt.out _ hBB6).mono ?_; rintro r w7 ⟨rfl, hw⟩; obtain rfl := hw.symm) | (go_at_call 7; refine (wakesT_ok _).mono ?_; rintro r w8 ⟨rfl, hb8⟩))
  go_ret
  exact ⟨rfl, bgo hB6 hb8⟩

set_option maxHeartbeats 8000000 in
theorem news_big (ch : Nat) (l : List El) (g o_ c : Nat) (w : World) (hu : SlE w (.slice (some ⟨g, o_, none⟩) 60 c) (l.take 60)) (h1 : 2 ≤ ch) (h2 : ch ≤ 64) (hl : 60 < l.length) (hlc : l.length ≤ c) :
    Calls Tryd.prog 3 #[.int .i64 (ch : Int), .slice (some ⟨g, o_, none⟩) l.length c] w fun r w' => r = .returned (.bool true) ∧ Below w.heap.size w w' := by
  have e1 : ¬ (ch : Int) < 2 := by omega
  have e2 : ¬ (64 : Int) < (ch : Int) := by omega
  have HN : Hid (∀ x, _) := fun x => new_ok ch x h1 h2
  unfold pv at HN
  go_enter Tryd.func3, Tryd.ntmps3
  go_upto_region 5 with (go_at_call 4; refine (HN.out _).mono ?_; rintro r w1 ⟨rfl, t1, hb1⟩)
  have r5 := row_new w1 (nov 0 none 0 0 none 0 0) 35
  have k1 := t1.later (below_one w1 (.cells (nov 0 none 0 0 none 0 0) 35))
  have k2 := bgo hb1 (below_one w1 (.cells (nov 0 none 0 0 none 0 0) 35))
  clear t1 hb1
  go_upto_region 9 with (first | (refine wpL_loadNo rfl _ rfl rfl r5 ?_) | (go_at_call 6; refine (refused_none _ _ _ _ _ _ _).mono ?_; rintro r w3 ⟨rfl, hb3⟩))
  replace k1 := k1.later hb3
  replace k2 := bgo k2 hb3
  clear hb3 r5
  have hto := k1.lt
  go_upto_region 10 with (go_at_call 4; refine (HN.out _).mono ?_; rintro r w9 ⟨rfl, o9, hb9⟩)
  replace k1 := k1.later hb9
  replace k2 := bgo k2 hb9
  clear hb9 HN
  have HI := hid_of' (insert_nil w3.heap.size ch [ex] (.slice (some ⟨w9.heap.size, 0, none⟩) 1 1) (w9.alloc (.cells (ecells [ex]).toArray 31)) (o9.later (below_one _ _)) (sl_new w9 [ex] 1 1 rfl) (by decide) (by simp) (by omega) h2)
  simp only [ecells, ex, pv] at HI
  go_upto_region 12 with (go_at_call 8; refine HI.out.mono ?_; rintro r wA ⟨rfl, w2, t2, rfl, hb2, a1, a2, a3⟩; clear HI)
  have a3' : t2.els = [ex] := a3
  have o1 := ((o9.later (below_one _ _)).later hb2).putCell (pv t2.blk)
  have o2 := a1.put (pv t2.blk) a2 ((o9.later (below_one _ _)).later hb2)
  have kA := ((k1.later (below_one _ _)).later hb2).otherP ⟨w3.heap.size, 1, none⟩ (pv t2.blk) (by show ¬ w.heap.size = w3.heap.size; omega)
  have hBA := (bgo (bgo k2 (below_one _ _)) hb2).setCell (p := ⟨w3.heap.size, 1, none⟩) (by show w.heap.size ≤ w3.heap.size; omega) (pv t2.blk)
  obtain ⟨ob, hob⟩ : ∃ ob, w3.heap.size = ob := ⟨_, rfl⟩
  rw [hob] at o1 o2 kA hBA hto ⊢
  unfold pv at o1 o2 kA hBA
  clear a1 a3 hb2 k1 k2 o9 hob
  generalize w2.setCell ⟨ob, 1, none⟩ (.pointer (some ⟨t2.blk, 0, none⟩)) = A at *
  have HJ := hid_of' (insert_nil w.heap.size ch (l.take 60) (.slice (some ⟨g, o_, none⟩) 60 c) A kA (hu.later hBA) (by rw [List.length_take]; omega) (List.ne_nil_of_length_pos (by rw [List.length_take]; omega)) (by omega) h2)
  unfold pv at HJ
  have hl6 : (60 : Int) < (l.length : Int) := by omega
  have hl7 : (60 : Int) ≤ (c : Int) := by omega
  go_upto_region 15 with (go_at_call 8; refine HJ.out.mono ?_; rintro r wB ⟨rfl, w4, t4, rfl, hb4, d1, d2, d3⟩; clear HJ)
  have b1 := (o1.later hb4).otherP ⟨w.heap.size, 1, none⟩ (pv t4.blk) (by show ¬ ob = w.heap.size; omega)
  have b2 := (o2.later hb4).put (pv t4.blk) a2 (kA.later hb4)
  have b3 : TrAt w.heap.size ch (l.take 60) (w4.setCell ⟨w.heap.size, 1, none⟩ (pv t4.blk)) := .inr ⟨t4, (kA.later hb4).putCell (pv t4.blk), d1.put (pv t4.blk) d2 (kA.later hb4), d2, d3⟩
  have hBB := (bgo hBA hb4).setCell (p := ⟨w.heap.size, 1, none⟩) (by show w.heap.size ≤ w.heap.size; omega) (pv t4.blk)
  unfold pv at b1 b2 b3 hBB
  clear o1 o2 kA hBA hb4 d1 d2 d3 hu
  generalize w4.setCell ⟨w.heap.size, 1, none⟩ (.pointer (some ⟨t4.blk, 0, none⟩)) = B at *
  have HA : Hid (Calls Tryd.prog 9 #[.pointer (some ⟨ob, 0, none⟩), .int .i64 0] B fun r w' => r = .returned (.tuple #[.agg (ev ex), .nilIface]) ∧ Below B.heap.size B w') := at_ok (ch := ch) 0 ex b1 b2 a2 (by rw [a3']; decide) (by rw [a3']; rfl)
  have HLo : Hid (∀ x, Below B.heap.size B x → Calls Tryd.prog 10 #[.pointer (some ⟨ob, 0, none⟩)] x fun r w' => r = .returned (.int .i64 1) ∧ w' = x) := fun x hx => by
    have := len_any (b := ob) (ch := ch) (.inr ⟨t2, b1.later hx, b2.later hx, a2, a3'⟩)
    exact this
  have HLt : Hid (∀ x, Below B.heap.size B x → Calls Tryd.prog 10 #[.pointer (some ⟨w.heap.size, 0, none⟩)] x fun r w' => r = .returned (.int .i64 (60 : Int)) ∧ w' = x) := fun x hx => by
    have := len_any (b := w.heap.size) (ch := ch) (b3.later hx)
    rw [List.length_take, Nat.min_eq_left (by omega)] at this
    exact this
  have HX := hid_of' (show ¬ w.heap.size = ob by omega)
  clear b1 b2 b3 a2 a3'
  go_upto_region 16 with (first | (go_at_call 9; refine HA.out.mono ?_; rintro r w5 ⟨rfl, hb5⟩; clear HA) | (refine wpL_storeE rfl _ _ rfl rfl rfl (row_new w5 _ _) ?_))
  have hr6 := (row_new w5 #[.int .i64 0, .int .i64 0, .int .i64 0, .int .i32 0, .int .i64 0] 31).put (ev ex)
  have hb6 : Below w5.heap.size w5 ((w5.alloc (.cells #[.int .i64 0, .int .i64 0, .int .i64 0, .int .i32 0, .int .i64 0] 31)).setRow w5.heap.size (ev ex)) := below_row (below_one _ _) (by omega) _
  have hBB6 := bgo hb5 hb6
  have hB6 := bgo hBB hBB6
  generalize (w5.alloc (.cells #[.int .i64 0, .int .i64 0, .int .i64 0, .int .i32 0, .int .i64 0] 31)).setRow w5.heap.size (ev ex) = W6 at *
  have c6 : W6.cell? ⟨w5.heap.size, 3, none⟩ = some (.int .i32 120) := hr6.cell 3
  go_wp2_with (first | (go_at_call_of 10 (Value.pointer (some ⟨ob, 0, none⟩)); refine (HLo.out _ hBB6).mono ?_; rintro r w7 ⟨rfl, hw⟩; obtain rfl := hw.symm) | (go_at_call_of 10 (Value.pointer (some ⟨w.heap.size, 0, none⟩)); refine (HLt.out _ hBB6).mono ?_; rintro r w7 ⟨rfl, hw⟩; obtain rfl := hw.symm) | (go_at_call 7; refine (wakesT_ok _).mono ?_; rintro r w8 ⟨rfl, hb8⟩))
  go_ret
  exact ⟨rfl, bgo hB6 hb8⟩

theorem news_all {ad : Nat → Addr} (ch : Int) (u : Value) (l : List El) (w : World) (L : Laid ad w) (hu : SlE w u l) (hc : ∀ a n c, u = .slice a n c → n ≤ c) :
    Calls Tryd.prog 3 #[.int .i64 ch, u] w fun r w' => r = .returned (.bool true) ∧ Below w.heap.size w w' := by
  by_cases h : ch < 2 ∨ 64 < ch
  · exact news_bad ch u w L h
  · obtain ⟨n, rfl⟩ := Int.eq_ofNat_of_zero_le (show 0 ≤ ch by omega)
    obtain ⟨a, c, rfl⟩ := hu.form
    have hlc := hc _ _ _ rfl
    by_cases hl : l = []
    · subst hl
      exact news_none n a c w (by omega) (by omega)
    · by_cases h6 : l.length ≤ 60
      · exact news_small n l a c w hu (by omega) (by omega) hl h6
      · rcases hu with ⟨e, _⟩ | ⟨g, o_, c', e, hE⟩
        · exact absurd e hl
        · cases e
          refine news_big n l g o_ c w (.inr ⟨g, o_, c, ?_, hE.take 60⟩) (by omega) (by omega) (by omega) hlc
          rw [List.length_take, Nat.min_eq_left (by omega)]
end Go.Proofs.YtcfefgcibdpmeabDoor
