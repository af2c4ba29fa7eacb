
/-
  barrowlaw14.worth, UndoCounts.
-/
import Derived.Test.YtgkbgojgpomcdaaDoorUn12
namespace Go.Proofs.YtgkbgojgpomcdaaDoor
open Go.RowKit Go.Extern.Stop Go.Stop Go.Extern
set_option maxRecDepth 100000

/-- Erases less restores. -/
def wk (k : Int) : Int := if k = 2 then 1 else if k = 3 then -1 else 0
def wth (a b c : Int) (e : Xg) : Int := if e.a = a ∧ e.b = b ∧ e.c = c then wk e.k else 0
def sumW (a b c : Int) : List Xg → Int
  | [] => 0
  | e :: l => wth a b c e + sumW a b c l
theorem sumW_app (a b c : Int) : ∀ l m : List Xg, sumW a b c (l ++ m) = sumW a b c l + sumW a b c m
  | [], m => by simp [sumW]
  | e :: l, m => by simp only [List.cons_append, sumW, sumW_app a b c l m]; omega
theorem sumW_rev (a b c : Int) : ∀ l : List Xg, sumW a b c l.reverse = sumW a b c l
  | [] => rfl
  | e :: l => by rw [List.reverse_cons, sumW_app, sumW_rev a b c l]; simp only [sumW]; omega
theorem wth_b (a b c : Int) (e : Xg) : -1 ≤ wth a b c e ∧ wth a b c e ≤ 1 := by
  unfold wth wk
  split
  · split
    · omega
    · split <;> omega
  · omega
theorem sumW_b (a b c : Int) : ∀ l : List Xg, -(l.length : Int) ≤ sumW a b c l ∧ sumW a b c l ≤ l.length
  | [] => by simp [sumW]
  | e :: l => by
    have := sumW_b a b c l
    have := wth_b a b c e
    simp only [sumW, List.length_cons]
    omega
theorem sumW_zero (a b c : Int) : ∀ l : List Xg, sumW a b c (turnL (tT 2 3 2) l) + sumW a b c (turnL (tT 3 2 3) l) = 0
  | [] => rfl
  | e :: l => by
    have ih := sumW_zero a b c l
    simp only [turnL]
    cases hk : okK e.k
    · exact ih
    · simp only [if_true, sumW]
      have : wth a b c ⟨tT 2 3 2 e.k, e.a, e.b, e.c⟩ + wth a b c ⟨tT 3 2 3 e.k, e.a, e.b, e.c⟩ = 0 := by
        unfold wth
        simp only
        split
        · rcases okK_three hk with h | h | h
          · rw [h]; rfl
          · rw [h]; rfl
          · rw [h]; rfl
        · rfl
      omega
theorem turnL_same (t t' : Int → Int) : ∀ l : List Xg, (turnL t l).length = (turnL t' l).length
  | [] => rfl
  | e :: l => by
    simp only [turnL]
    cases okK e.k
    · exact turnL_same t t' l
    · simp only [if_true, List.length_cons, turnL_same t t' l]
theorem sumW_next (a b c : Int) {l : List Xg} {k : Nat} {e : Xg} (h : l[k]? = some e) : sumW a b c (l.take (k + 1)) = sumW a b c (l.take k) + wth a b c e := by
  rw [List.take_add_one, h, sumW_app]
  simp [sumW]
theorem eq_id (a b c a' b' c' : Int) (w : World) : (Op.equalIn 10000 64 (.agg #[.int .i64 a, .int .i64 b, .int .i64 c]) (.agg #[.int .i64 a', .int .i64 b', .int .i64 c'])).run Tryd.prog w = .ok (decide (a = a' ∧ b = b' ∧ c = c')) w := by
  by_cases h1 : a = a'
  · by_cases h2 : b = b'
    · by_cases h3 : c = c'
      · subst h1 h2 h3; simp [go_sem]
      · simp [go_sem, h1, h2, h3]
    · simp [go_sem, h1, h2]
  · simp [go_sem, h1]
set_option maxHeartbeats 2000000 in
theorem worth_is (e : Xg) (a b c : Int) (w : World) :
    Calls Tryd.prog 30 #[.agg (xgv e), .agg #[.int .i64 a, .int .i64 b, .int .i64 c]] w fun r w' => r = .returned (.int .i64 (wth a b c e)) ∧ Below w.heap.size w w' := by
  obtain ⟨k, x, y, z⟩ := e
  have hq := eq_id x y z a b c
  unfold xgv wth wk
  have hb := bgo (below_one w (.cells #[.int .i64 k, .int .i64 x, .int .i64 y, .int .i64 z] 66)) (below_one _ (.cells #[.int .i64 a, .int .i64 b, .int .i64 c] 64))
  by_cases h : x = a ∧ y = b ∧ z = c
  · obtain ⟨rfl, rfl, rfl⟩ := h
    rw [decide_eq_true ⟨rfl, rfl, rfl⟩] at hq
    rw [if_pos ⟨rfl, rfl, rfl⟩]
    by_cases h2 : k = 2
    · subst h2
      go_enter Tryd.func30, Tryd.ntmps30
      go_wp2
      go_ret
      exact ⟨rfl, hb⟩
    · by_cases h3 : k = 3
      · subst h3
        go_enter Tryd.func30, Tryd.ntmps30
        go_wp2
        go_ret
        exact ⟨rfl, hb⟩
      · rw [if_neg h2, if_neg h3]
        go_enter Tryd.func30, Tryd.ntmps30
        go_wp2
        go_ret
        exact ⟨rfl, hb⟩
  · rw [decide_eq_false h] at hq
    rw [if_neg h]
    go_enter Tryd.func30, Tryd.ntmps30
    go_wp2
    go_ret
    exact ⟨rfl, hb⟩

/-- The document's refusal. -/
theorem say_is (c : ByteArray) (i : Int) (k : Nat) (w : World) :
    Calls Tryd.prog 29 #[.string bU, .string c, .int .i64 i, .int .i64 ((k : Int) + 1)] w fun e w' => ∃ v, e = .returned v ∧ NoR w.heap.size (some (c, i, k)) v w' ∧ Below w.heap.size w w' :=
  (say_any bU c i ((k : Int) + 1) w (by rw [beq_eq_false_iff_ne]; omega)).mono fun _ _ ⟨g, g', h1, h2, h3, h4, h5, h6⟩ => ⟨_, h1, ⟨g, g', rfl, h3, h2, h4, h5⟩, h6⟩
set_option maxHeartbeats 4000000 in
theorem undoCounts_all {ad : Nat → Addr} {W : World} {v : Value} {l : List Xg} (L : Laid ad W) (h : SlD W v l) (hc : ∀ a n c, v = .slice a n c → n ≤ c) :
    Calls Tryd.prog 7 #[v] W fun e w' => e = .returned (.bool true) ∧ Below W.heap.size W w' := by
  have HC := hid_of' (cut14_is h hc)
  have HN := hid_of' (new_ok W)
  have HW := hid_of' wakes14_ok
  have HL := hid_of' L
  clear h hc L
  go_enter Tryd.func7, Tryd.ntmps7
  go_upto_region 2 with (go_at_call 17; refine HC.out.mono ?_; rintro e w0 ⟨u, rfl, hu, h0⟩; obtain rfl := h0.symm; clear HC)
  obtain ⟨a, c, hu9⟩ := hu.form
  have hml : (l.take 20).length ≤ 20 := by rw [List.length_take]; omega
  generalize l.take 20 = m at hu hu9 hml
  have HS := hid_of' hu
  obtain ⟨nm, hnm⟩ : ∃ nm, nm = m.length := ⟨_, rfl⟩
  rw [← hnm] at hu9 hml
  subst hu9
  clear hu
  have hm2 : m.length ≤ 4398046510976 := by omega
  have HM := hid_of' (And.intro hnm hm2)
  clear hnm hm2
  go_upto_region 5 with (go_at_call 9; refine HN.out.mono ?_; rintro e w1 ⟨rfl, hg1, hb1⟩; clear HN; have H1 := hid_of' (And.intro hg1 hb1); clear hg1 hb1)
  by_cases hz : nm = 0
  · subst hz
    have HD := hid_of' (done_none (B := W.heap.size) (w := w1) (a := a) (c := c))
    have HU := hid_of' (undo_no (HL.out.below H1.out.2).ln H1.out.1 rfl)
    have hY := fun x => say_is bUndo (-1) 11 x
    rw [show (((11 : Nat) : Int) + 1) = 12 from rfl] at hY
    have HY := hid_of' hY
    clear hY
    go_wp2_with (first | (go_at_call 28; (with_reducible refine HD.out.mono ?_); rintro e w2 ⟨⟨z, rfl⟩, h0⟩; obtain rfl := h0.symm; clear HD) | (go_at_call 25; (with_reducible refine HU.out.mono ?_); rintro e w3 ⟨v3, rfl, he3, hb3⟩; clear HU; obtain ⟨b3, rfl, he3⟩ := he3; have H3 := hid_of' (And.intro he3 (bgo H1.out.2 hb3)); clear he3 hb3) | (go_at_call 29; refine (HY.out _).mono ?_; rintro e w4 ⟨v4, rfl, hn4, hb4⟩; clear HY; have HRf := hid_of' (refused_is (HL.out.below (bgo H3.out.2 hb4)) (ErrR.later (o := some (bUndo, -1, 11)) ⟨b3, rfl, H3.out.1⟩ hb4) hn4); have H4 := hid_of' (bgo H3.out.2 hb4); obtain ⟨g4, g4', rfl, _⟩ := hn4; clear hb4) | (go_at_call 16; refine HRf.out.mono ?_; rintro e w5 ⟨rfl, hb5⟩; clear HRf; have H5 := hid_of' (bgo H4.out hb5); clear hb5) | (go_at_call 13; refine (HW.out _).mono ?_; rintro e w6 ⟨rfl, hb6⟩))
    go_ret
    exact ⟨rfl, bgo H5.out hb6⟩
  · have hne : m ≠ [] := fun e => hz (by rw [HM.out.1, e]; rfl)
    have hzi : ¬ (nm : Int) = 0 := by omega
    have HD := hid_of' (done_ok H1.out.1 (HS.out.later H1.out.2) hne HM.out.2)
    have hH : Hid (nwL ([] : List (List Xg)) m = [m]) := rfl
    go_upto_region 9 with (go_at_call 28; (with_reducible refine HD.out.mono ?_); rintro e w2 ⟨⟨z, rfl⟩, vd2, F2, hk2, hc2, hf2⟩; clear HD; have H2 := hid_of' (And.intro hk2 (And.intro hc2 hf2)); clear hk2 hc2 hf2)
    have hB2 : Below W.heap.size W w2 := H1.out.2.trans (H2.out.2.1.below (fun s hs e => by have e' : s = W.heap.size := e; omega) H1.out.2.size)
    have hF2 : ∀ k, F2 k → W.heap.size ≤ k := fun k hk => by
      rcases H2.out.2.2 k hk with e | e
      · have e' : k = W.heap.size := e
        omega
      · have := H1.out.2.size
        omega
    have HU := hid_of' (undo_yes (n := 0) (l := m) H2.out.1 rfl rfl)
    go_upto_region 10 with (go_at_call 25; (with_reducible refine HU.out.mono ?_); rintro e w3 ⟨v3, vd3, vu3, F3, rfl, hv3, hn3, hk3, hc3, hf3⟩; clear HU; obtain ⟨a3, c3, hv9, _⟩ := Rw.form hv3.1; generalize hn3' : List.length _ = n3 at hv9; subst hv9; have H3 := hid_of' (And.intro hv3 (And.intro hn3 (And.intro hk3 (And.intro hc3 (And.intro hf3 hn3'))))); clear hv3 hn3 hk3 hc3 hf3 hn3')
    have hB3 : Below W.heap.size W w3 := hB2.trans (H3.out.2.2.2.1.below (fun s hs e => by have := hF2 s e; omega) hB2.size)
    have hF3 : ∀ k, F3 k → W.heap.size ≤ k := fun k hk => by
      rcases H3.out.2.2.2.2.1 k hk with e | e
      · exact hF2 k e
      · have := hB2.size
        omega
    have HR := hid_of' (redo_yes (n := 0) (l := m) H3.out.2.2.1 rfl rfl)
    go_upto_region 11 with (go_at_call 26; (with_reducible refine HR.out.mono ?_); rintro e w4 ⟨v4, vd4, vu4, F4, rfl, hv4, _, hk4, hc4, _⟩; clear HR; obtain ⟨a4, c4, hv9, _⟩ := Rw.form hv4.1; generalize hn4' : List.length _ = n4 at hv9; subst hv9; have H4 := hid_of' (And.intro hv4 (And.intro hc4 hn4')); clear hv4 hk4 hc4 hn4')
    have hB4 : Below W.heap.size W w4 := hB3.trans (H4.out.2.1.below (fun s hs e => by have := hF3 s e; omega) hB3.size)
    have hsA : SlD w4 (.slice a3 n3 c3) (bkL m) := (RwX.sl (Rw.ch H3.out.1.1 H4.out.2.1 H3.out.2.1))
    have hsB : SlD w4 (.slice a4 n4 c4) (agL m) := H4.out.1.1.sl
    have hsM := HS.out.later hB4
    obtain rfl : n4 = n3 := by
      rw [← H4.out.2.2, ← H3.out.2.2.2.2.2]
      unfold bkL agL
      rw [List.length_reverse]
      exact turnL_same _ _ _
    have hla : (bkL m).length = n4 := H3.out.2.2.2.2.2
    have hlb : (agL m).length = n4 := H4.out.2.2
    have hn20 : n4 ≤ 20 := by
      have := bkL_len m
      have := HM.out.1
      omega
    have hzero : ∀ x y z, sumW x y z (bkL m) + sumW x y z (agL m) = 0 := fun x y z => by
      unfold bkL agL
      rw [sumW_rev]
      exact sumW_zero x y z m
    have HX := hid_of' (And.intro hsA (And.intro hsB (And.intro hsM (And.intro hla (And.intro hlb (And.intro hzero hB4))))))
    clear hsA hsB hsM hla hlb hzero hB4 hB3 hB2 hF2 hF3 H4 H3 H2 H1 hH
    go_upto_region 14 with fail
    go_loopw [10, 11, 12] (fun iv _ _ wr => ∃ i : Nat, iv = .int .i64 (i : Int) ∧ i ≤ nm ∧ Below w4.heap.size w4 wr) (fun iv _ _ _ => nm - (intOf iv).toNat)
    case atStart => exact ⟨0, rfl, Nat.zero_le _, Below.refl _ _⟩
    case round =>
      obtain ⟨i, rfl, hi, hB⟩ := hrel
      obtain ⟨hsA, hsB, hsM, hla, hlb, hzero, hB4⟩ := HX.out
      by_cases hin : i < nm
      · have hii : (i : Int) < (nm : Int) := by omega
        obtain ⟨e, he⟩ : ∃ e, m[i]? = some e := ⟨_, List.getElem?_eq_getElem (by rw [← HM.out.1]; exact hin)⟩
        obtain ⟨_, gm, om, rfl, hcm⟩ := hsM.some' hne
        have hid0 := g_id (hcm i e he)
        have HZ := hid_of' (hzero e.a e.b e.c)
        have HX2 := hid_of' (And.intro hsA (And.intro hsB (And.intro hla (And.intro hlb hid0))))
        have HBr := hid_of' hB
        clear hsA hsB hsM hla hlb hzero hB4 hcm he hid0 hB
        go_upto_region 18 with fail
        go_loopw [11, 12] (fun nv kv wq => ∃ k : Nat, kv = .int .i64 (k : Int) ∧ nv = .int .i64 (sumW e.a e.b e.c ((bkL m).take k) + sumW e.a e.b e.c ((agL m).take k)) ∧ k ≤ n4 ∧ Below w4.heap.size w4 wq) (fun _ kv _ => n4 - (intOf kv).toNat)
        case atStart => exact ⟨0, rfl, rfl, Nat.zero_le _, HBr.out⟩
        case round =>
          obtain ⟨k, rfl, rfl, hk, hB⟩ := hrel
          by_cases hk4 : k < n4
          · have hki : (k : Int) < (n4 : Int) := by omega
            obtain ⟨hsA, hsB, hla, hlb, hid0⟩ := HX2.out
            obtain ⟨x, hx⟩ : ∃ x, (bkL m)[k]? = some x := ⟨_, List.getElem?_eq_getElem (by omega)⟩
            obtain ⟨y, hy⟩ : ∃ y, (agL m)[k]? = some y := ⟨_, List.getElem?_eq_getElem (by omega)⟩
            have hna : bkL m ≠ [] := fun q => by rw [q] at hla; simp at hla; omega
            have hnb : agL m ≠ [] := fun q => by rw [q] at hlb; simp at hlb; omega
            obtain ⟨_, ga, oa, rfl, hca⟩ := hsA.some' hna
            obtain ⟨_, gb, ob, rfl, hcb⟩ := hsB.some' hnb
            have hea := (hca k x hx).later hB
            have heb := (hcb k y hy).later hB
            have hid := hid0.later hB
            have HT := hid_of' (And.intro (sumW_next e.a e.b e.c hx) (sumW_next e.a e.b e.c hy))
            have b1 := sumW_b e.a e.b e.c ((bkL m).take k)
            have b2 := sumW_b e.a e.b e.c ((agL m).take k)
            have w1 := wth_b e.a e.b e.c x
            have w2 := wth_b e.a e.b e.c y
            have l1 : ((bkL m).take k).length ≤ 20 := by rw [List.length_take]; omega
            have l2 : ((agL m).take k).length ≤ 20 := by rw [List.length_take]; omega
            generalize hS1 : sumW e.a e.b e.c ((bkL m).take k) = s1 at *
            generalize hS2 : sumW e.a e.b e.c ((agL m).take k) = s2 at *
            generalize hW1 : wth e.a e.b e.c x = t1 at *
            generalize hW2 : wth e.a e.b e.c y = t2 at *
            have e1 : wrap64 (s1 + s2 + t1) = s1 + s2 + t1 := wrapIs (by omega) (by omega)
            have e2 : wrap64 (s1 + s2 + t1 + t2) = s1 + s2 + t1 + t2 := wrapIs (by omega) (by omega)
            have HC1 := hid_of' (fun z => worth_is x e.a e.b e.c z)
            have HC2 := hid_of' (fun z => worth_is y e.a e.b e.c z)
            rw [hW1] at HC1
            rw [hW2] at HC2
            clear hca hcb hx hy hna hnb hid0 hsA hsB hla hlb b1 b2 w1 w2 l1 l2 hS1 hS2 hW1 hW2
            go_upto_region 20 with fail
            refine wp_region_cls (by kernel_rfl) (by kernel_rfl) ?_
            repeat (first | go_big_quiet_skip | (go_big_quiet_want; first | (refine quiet_load_in _ _ rfl rfl hea.cls Tryd.underlying66 rfl (g_size x) ?_; simp only [Act.put, List.setIfInBounds_toArray, List.set_cons_succ, List.set_cons_zero]; go_big_quiet_on) | (refine quiet_load_in _ _ rfl rfl heb.cls Tryd.underlying66 rfl (g_size y) ?_; simp only [Act.put, List.setIfInBounds_toArray, List.set_cons_succ, List.set_cons_zero]; go_big_quiet_on) | (refine quiet_load_in _ _ rfl rfl hid.cls Tryd.underlying64 rfl id_size ?_; simp only [Act.put, List.setIfInBounds_toArray, List.set_cons_succ, List.set_cons_zero]; go_big_quiet_on) | (go_big_quiet_op; first | go_big_quiet_on | go_big_quiet_call ((first | (go_at_call_of 30 (Value.agg (xgv x)); exact cls_of (HC1.out _)) | (go_at_call 30; exact cls_of (HC2.out _)))))))
            refine wpQuiet_nil ?_
            rintro w1 ⟨s1, e1⟩
            have hb1 := wOf_below s1
            rw [← e1] at hb1
            clear e1 s1
            replace hB := bgo hB hb1
            clear hb1
            go_wp2
            go_roundw
            case rel => exact ⟨k + 1, by go_num, by rw [HT.out.1, HT.out.2]; congr 1; omega, by omega, hB⟩
            case measure => simp [intOf]; omega
          · obtain rfl : k = n4 := by omega
            have hki : ¬ (k : Int) < (k : Int) := by omega
            have h0 : sumW e.a e.b e.c ((bkL m).take k) + sumW e.a e.b e.c ((agL m).take k) = 0 := by
              rw [List.take_of_length_le (by have := HX2.out.2.2.1; omega), List.take_of_length_le (by have := HX2.out.2.2.2.1; omega)]
              exact HZ.out
            rw [h0]
            go_wp2
            go_roundw
            case rel => exact ⟨i + 1, by go_num, by omega, hB⟩
            case measure => simp [intOf]; omega
      · have hii : ¬ (i : Int) < (nm : Int) := by omega
        have HBr := hid_of' (bgo hB4 hB)
        clear hsA hsB hsM hla hlb hzero hB4 hB
        go_wp2_with (go_at_call 13; refine (HW.out _).mono ?_; rintro e w6 ⟨rfl, hb6⟩)
        go_ret
        exact ⟨rfl, bgo HBr.out hb6⟩
end Go.Proofs.YtgkbgojgpomcdaaDoor
