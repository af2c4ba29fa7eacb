/-
  barrowlaw03.ClockText.
-/
import Derived.Test.YtcfefgcibdpmeaaDoorCkRefT
import Derived.Test.YtcfefgcibdpmeaaDoorCkParOk
namespace Go.Proofs.YtcfefgcibdpmeaaDoor
open Go.RowKit Go.Extern.Stop Go.Stop Go.Extern
open Go.Lib (TabIs pow10Tab)
set_option maxRecDepth 100000

/-- The clock behind k rounds of the law's loop. -/
def xkC (a : List Int) (n k : Nat) : List Int := (List.range 8).map fun j => if n ≤ j ∧ j < k then 0 else en a j
/-- What is found behind k rounds. -/
def fkC (a : List Int) (n k : Nat) : Bool := decide (0 < n) && (List.range k).all fun j => decide (n ≤ j ∨ 0 ≤ en a j)
theorem xkC_len (a : List Int) (n k : Nat) : (xkC a n k).length = 8 := by simp [xkC]
theorem xkC_en (a : List Int) (n k : Nat) {j : Nat} (hj : j < 8) : en (xkC a n k) j = if n ≤ j ∧ j < k then 0 else en a j := by
  simp [en, xkC, List.getD, hj]
theorem ext8 {x y : List Int} (hx : x.length = 8) (hy : y.length = 8) (h : ∀ j, j < 8 → en x j = en y j) : x = y := by
  apply List.ext_getElem (by omega)
  intro j h1 h2
  have := h j (by omega)
  simpa [en, List.getD, h1, h2] using this
theorem xkC_zero {a : List Int} (ha : a.length = 8) (n : Nat) : xkC a n 0 = a := ext8 (xkC_len a n 0) ha fun j hj => by rw [xkC_en a n 0 hj, if_neg (by omega)]
theorem xkC_end (a : List Int) (n : Nat) : xkC a n 8 = frC a n := ext8 (xkC_len a n 8) (frC_len a n) fun j hj => by
  rw [xkC_en a n 8 hj, frC_en a n hj]
  by_cases h : j < n
  · rw [if_pos h, if_neg (by omega)]
  · rw [if_neg h, if_pos (by omega)]
theorem xkC_keep (a : List Int) {n k : Nat} (h : k < n) : xkC a n (k + 1) = xkC a n k := ext8 (xkC_len _ _ _) (xkC_len _ _ _) fun j hj => by
  rw [xkC_en a n _ hj, xkC_en a n _ hj]
  by_cases h1 : n ≤ j ∧ j < k
  · rw [if_pos h1, if_pos (by omega)]
  · rw [if_neg h1, if_neg (by omega)]
theorem xkC_put (a : List Int) {n k : Nat} (h : n ≤ k) (hk : k < 8) : (xkC a n k).set k 0 = xkC a n (k + 1) := ext8 (by simp [xkC_len]) (xkC_len _ _ _) fun j hj => by
  rw [getD_set _ _ _ _ (by rw [xkC_len]; exact hk), xkC_en a n _ hj, xkC_en a n _ hj]
  by_cases e : j = k
  · rw [if_pos e, if_pos (by omega)]
  · rw [if_neg e]
    by_cases h1 : n ≤ j ∧ j < k
    · rw [if_pos h1, if_pos (by omega)]
    · rw [if_neg h1, if_neg (by omega)]
theorem fkC_zero (a : List Int) (n : Nat) : fkC a n 0 = decide (0 < n) := by simp [fkC]
theorem fkC_next (a : List Int) (n k : Nat) : fkC a n (k + 1) = (fkC a n k && decide (n ≤ k ∨ 0 ≤ en a k)) := by
  simp [fkC, List.range_succ, Bool.and_assoc]
theorem fkC_end (a : List Int) {n : Nat} (hn : n ≤ 8) : fkC a n 8 = fitC a n := by
  unfold fkC fitC
  congr 1
  rw [Bool.eq_iff_iff, List.all_eq_true, List.all_eq_true]
  constructor
  · intro h j hj
    have hj' : j < n := by simpa using hj
    have := of_decide_eq_true (h j (by simp; omega))
    exact decide_eq_true (by omega)
  · intro h j hj
    by_cases hjn : j < n
    · exact decide_eq_true (.inr (of_decide_eq_true (h j (by simpa using hjn))))
    · exact decide_eq_true (.inl (by omega))

/-- Parse, where it is of no account which reason it names. -/
theorem parse_plain {a5 : Addr} (s : ByteArray) (w : World) (hs : s.size ≤ 140737488355328) (hE : ∀ x, Below w.heap.size w x → x.cell? ⟨0, 0, none⟩ = some (.iface 205 (.pointer (some a5)))) :
    Calls Tryd.prog 8 #[.string s] w fun e w' => ∃ v, e = .returned v ∧ PA (fun _ fv _ => ∃ b, fv = .iface 101 (.pointer (some ⟨b, 0, none⟩))) (refP s.data.toList 0 0 0 ck0) v w' ∧ Below w.heap.size w w' := by
  rw [← par_ref0]
  refine parse_any _ (.iface 205 (.pointer (some a5))) s w hs hE (fun p x _ _ => (newF (ad := fun _ => a5) bClk bParse p 5 x).mono ?_) ?_
  · rintro e x' ⟨rfl, _, hb2⟩
    exact ⟨_, rfl, ⟨_, rfl⟩, hb2⟩
  · rintro p fv x g cs _ h _ _
    exact h

set_option maxHeartbeats 4000000 in
theorem textC_big {a5 : Addr} (a : List Int) (z : Int) (N : Nat) (w : World) (ha : Ck a) (hcn : cntC z = N) (hN8 : N ≤ 8) (hz : 8 < z) (hlt : ∀ k : Nat, k < 8 → ((k : Int) < 8 ↔ k < N)) (hpos : (1 ≤ 8 ↔ 0 < N)) (hNz : 0 < N → 8 = (N : Int))
    (HT : ∀ x, Below w.heap.size w x → TabIs Tryd.prog x "internal/strconv.uint64pow10" .u64 pow10Tab) (hE : ∀ x, Below w.heap.size w x → x.cell? ⟨0, 0, none⟩ = some (.iface 205 (.pointer (some a5)))) :
    Calls Tryd.prog 3 #[.agg (cv a), .int .i64 z] w fun e w' => e = .returned (.bool true) ∧ Below w.heap.size w w' := by
  have H1 : Hid (∀ x, Below w.heap.size w x → Calls Tryd.prog 6 #[.agg (cv a), .int .i64 z] x fun e w' => e = .returned (.string ⟨(txtC a 0 N).toArray⟩) ∧ Below x.heap.size x w') := fun x hx => by
    have := text_all a z x ha (fun y hy => HT y (bgo hx hy))
    rw [hcn] at this
    exact this
  have H2 : Hid (∀ x, Calls Tryd.prog 7 #[.agg (cv a), .int .i64 z] x fun e w' => e = .returned (.string ⟨(txtC a 0 N).toArray⟩) ∧ Below x.heap.size x w') := fun x => by
    have := refText_any a z x ha
    rw [hcn] at this
    exact this
  have HS : Hid ((⟨(txtC a 0 N).toArray⟩ : ByteArray).size ≤ 140737488355328) := by
    have := txtC_len (en_len ha) N 0
    show (txtC a 0 N).toArray.size ≤ _
    simp only [List.size_toArray]
    omega
  have HP : Hid (∀ x, Below w.heap.size w x → _) := fun x hx => parse_plain (a5 := a5) ⟨(txtC a 0 N).toArray⟩ x HS.out (fun y hy => hE y (bgo hx hy))
  have HF : Hid (∃ p, refP (txtC a 0 N) 0 0 0 ck0 = (if fitC a N then some (frC a N, N) else none, p)) := back_txt ha hN8
  have hB := below_one w (.cells (cv a) 23)
  have h1 := CkAt.new w ha.1
  have HK : Hid ((∀ k : Nat, k < 8 → ((k : Int) < 8 ↔ k < N)) ∧ (1 ≤ 8 ↔ 0 < N) ∧ (0 < N → 8 = (N : Int)) ∧ N ≤ 8) := ⟨hlt, hpos, hNz, hN8⟩
  clear hlt hNz hN8 HT hE hcn HS
  obtain ⟨f0, hf0⟩ : ∃ f0, decide (1 ≤ 8) = f0 := ⟨_, rfl⟩
  have HF0 : Hid (f0 = fkC a N 0) := by rw [fkC_zero, ← hf0]; exact decide_eq_decide.2 hpos
  clear hpos
  go_enter Tryd.func3, Tryd.ntmps3
  go_upto_region 1 with fail
  refine wp_region_cls0 ?_
  repeat (first | go_big_quiet_skip | (go_big_quiet_want; first | (refine quiet_load_ck _ rfl rfl (cls_ck h1) ?_; simp only [Act.put, List.setIfInBounds_toArray, List.set_cons_succ, List.set_cons_zero]; go_big_quiet_on) | (go_big_quiet_op; first | go_big_quiet_on | go_big_quiet_call ((go_at_call 6; exact cls_of (H1.out _ (bgo hB (wOf_below _))))))))
  refine wpQuiet_nil ?_
  rintro w1 ⟨s1, e1⟩
  have hb1 := wOf_below s1
  rw [← e1] at hb1
  clear e1 s1
  replace h1 := h1.later hb1
  replace hB := bgo hB hb1
  clear hb1
  go_upto_region 2 with fail
  refine wp_region_cls0 ?_
  repeat (first | go_big_quiet_skip | (go_big_quiet_want; first | (refine quiet_load_ck _ rfl rfl (cls_ck h1) ?_; simp only [Act.put, List.setIfInBounds_toArray, List.set_cons_succ, List.set_cons_zero]; go_big_quiet_on) | (go_big_quiet_op; first | go_big_quiet_on | go_big_quiet_call ((go_at_call 7; exact cls_of (H2.out _))))))
  refine wpQuiet_nil ?_
  rintro w1 ⟨s1, e1⟩
  have hb1 := wOf_below s1
  rw [← e1] at hb1
  clear e1 s1
  replace h1 := h1.later hb1
  replace hB := bgo hB hb1
  clear hb1
  clear H1 H2
  go_wp2
  go_loopw [7, 8] (fun f i wr => ∃ k : Nat, i = .int .i64 (k : Int) ∧ k ≤ 8 ∧ f = .bool (fkC a N k) ∧ CkAt w.heap.size (xkC a N k) wr ∧ Below w.heap.size w wr) (fun _ i _ => 8 - (intOf i).toNat)
  case atStart => exact ⟨0, rfl, by omega, by rw [← HF0.out, ← hf0]; rfl, by rw [xkC_zero ha.1]; exact h1, hB⟩
  case round =>
    obtain ⟨k, rfl, hk, rfl, h2, hB2⟩ := hrel
    clear h1 hB HF0
    by_cases hk8 : k < 8
    · have hk8i : (k : Int) < 8 := by omega
      have hnx := fkC_next a N k
      by_cases hkN : k < N
      · have hkn : (k : Int) < 8 := (HK.out.1 k hk8).2 hkN
        have c1 := h2.cell hk8
        rw [xkC_en a N k hk8, if_neg (by omega)] at c1
        have hkeep := hid_of (xkC_keep a hkN)
        by_cases hneg : en a k < 0
        · rw [decide_eq_false (by omega), Bool.and_false] at hnx
          have HN := hid_of hnx
          clear hnx
          go_wp2
          go_roundw
          case rel => exact ⟨k + 1, by go_num, by omega, by rw [HN.out], by rw [hkeep.out]; exact h2, hB2⟩
          case measure => simp [intOf]; omega
        · rw [decide_eq_true (by omega), Bool.and_true] at hnx
          have HN := hid_of hnx
          clear hnx
          go_wp2
          go_roundw
          case rel => exact ⟨k + 1, by go_num, by omega, by rw [HN.out], by rw [hkeep.out]; exact h2, hB2⟩
          case measure => simp [intOf]; omega
      · have hkn : ¬ (k : Int) < 8 := fun h => hkN ((HK.out.1 k hk8).1 h)
        exact absurd hk8i hkn
    · obtain rfl : k = 8 := by omega
      rw [xkC_end] at h2
      have hfe := fkC_end a HK.out.2.2.2
      obtain ⟨p, hrp⟩ := HF.out
      have HP' := hid_of (HP.out _ hB2)
      obtain ⟨b, hb⟩ : ∃ b, fitC a N = b := ⟨_, rfl⟩
      rw [hb] at hrp hfe
      rw [hrp] at HP'
      clear HF HP hrp
      have gd := ck_guard
      cases b with
      | false =>
        have HW : Hid (∀ x, Calls Tryd.prog 9 #[] x fun e w' => e = .returned (.bool true) ∧ Below x.heap.size x w') := wakesC_ok
        go_upto_region 16 with (first | (go_at_call 8; refine HP'.out.mono ?_; rintro e w2 ⟨v, rfl, hv, hb2⟩; obtain ⟨fv, rfl, bb, rfl⟩ := hv; clear HP') | (refine wpL_store rfl _ _ rfl rfl (v := ck0) rfl (CkAt.new w2 (x := ck0) rfl) rfl ?_))
        obtain ⟨k1, kB1⟩ := afterP w2 (a := ck0) rfl
        have hB := bgo (bgo hB2 hb2) kB1
        rw [ck0_cv] at hB
        go_upto_region 17 with fail
        refine wp_region_cls0 ?_
        repeat (first | go_big_quiet_skip | (go_big_quiet_want; first | (go_big_quiet_op; first | go_big_quiet_on | go_big_quiet_call ((go_at_call 9; exact cls_of (wakesC_ok _))))))
        refine wpQuiet_nil ?_
        rintro w1 ⟨s1, e1⟩
        have hb1 := wOf_below s1
        rw [← e1] at hb1
        clear e1 s1
        replace hB := bgo hB hb1
        clear hb1
        go_wp2
        go_ret
        exact ⟨rfl, hB⟩
      | true =>
        have hN0 : 0 < N := by
          unfold fitC at hb
          rw [Bool.and_eq_true] at hb
          exact of_decide_eq_true hb.1
        have hnz : 8 = (N : Int) := HK.out.2.2.1 hN0
        have q1 := eqIn_ck (frC a N) (frC a N) (frC_len a N) (frC_len a N)
        have s1 : (frC a N == frC a N) = true := by simp
        have hfl := frC_len a N
        have hn8 : (N : Int) = 8 := hnz.symm
        clear hnz
        go_upto_region 16 with (first | (go_at_call 8; refine HP'.out.mono ?_; rintro e w2 ⟨v, rfl, hv, hb2⟩; obtain rfl := hv; clear HP') | (refine wpL_store rfl _ _ rfl rfl (v := frC a N) rfl (CkAt.new w2 (x := ck0) rfl) hfl ?_))
        obtain ⟨h9, kB1⟩ := afterP w2 (a := frC a N) hfl
        have hB := bgo (bgo hB2 hb2) kB1
        replace h2 := (h2.later hb2).later kB1
        rw [ck0_cv] at hB h2 h9
        go_upto_region 18 with fail
        refine wp_region_cls0 ?_
        repeat (first | go_big_quiet_skip | (go_big_quiet_want; first | (refine quiet_load_ck _ rfl rfl (cls_ck h9) ?_; simp only [Act.put, List.setIfInBounds_toArray, List.set_cons_succ, List.set_cons_zero]; go_big_quiet_on) | (refine quiet_load_ck _ rfl rfl (cls_ck h2) ?_; simp only [Act.put, List.setIfInBounds_toArray, List.set_cons_succ, List.set_cons_zero]; go_big_quiet_on) | (go_big_quiet_op; first | go_big_quiet_on | go_big_quiet_call ((go_at_call 9; exact cls_of (wakesC_ok _))))))
        refine wpQuiet_nil ?_
        rintro w1 ⟨s1, e1⟩
        have hb1 := wOf_below s1
        rw [← e1] at hb1
        clear e1 s1
        replace h9 := h9.later hb1
        replace h2 := h2.later hb1
        replace hB := bgo hB hb1
        clear hb1
        go_wp2
        go_ret
        exact ⟨rfl, hB⟩

set_option maxHeartbeats 4000000 in
theorem textC_low {a5 : Addr} (a : List Int) (z : Int) (N : Nat) (w : World) (ha : Ck a) (hcn : cntC z = N) (hN8 : N ≤ 8) (hz : ¬ 8 < z) (hlt : ∀ k : Nat, k < 8 → ((k : Int) < z ↔ k < N)) (hpos : (1 ≤ z ↔ 0 < N)) (hNz : 0 < N → z = (N : Int))
    (HT : ∀ x, Below w.heap.size w x → TabIs Tryd.prog x "internal/strconv.uint64pow10" .u64 pow10Tab) (hE : ∀ x, Below w.heap.size w x → x.cell? ⟨0, 0, none⟩ = some (.iface 205 (.pointer (some a5)))) :
    Calls Tryd.prog 3 #[.agg (cv a), .int .i64 z] w fun e w' => e = .returned (.bool true) ∧ Below w.heap.size w w' := by
  have H1 : Hid (∀ x, Below w.heap.size w x → Calls Tryd.prog 6 #[.agg (cv a), .int .i64 z] x fun e w' => e = .returned (.string ⟨(txtC a 0 N).toArray⟩) ∧ Below x.heap.size x w') := fun x hx => by
    have := text_all a z x ha (fun y hy => HT y (bgo hx hy))
    rw [hcn] at this
    exact this
  have H2 : Hid (∀ x, Calls Tryd.prog 7 #[.agg (cv a), .int .i64 z] x fun e w' => e = .returned (.string ⟨(txtC a 0 N).toArray⟩) ∧ Below x.heap.size x w') := fun x => by
    have := refText_any a z x ha
    rw [hcn] at this
    exact this
  have HS : Hid ((⟨(txtC a 0 N).toArray⟩ : ByteArray).size ≤ 140737488355328) := by
    have := txtC_len (en_len ha) N 0
    show (txtC a 0 N).toArray.size ≤ _
    simp only [List.size_toArray]
    omega
  have HP : Hid (∀ x, Below w.heap.size w x → _) := fun x hx => parse_plain (a5 := a5) ⟨(txtC a 0 N).toArray⟩ x HS.out (fun y hy => hE y (bgo hx hy))
  have HF : Hid (∃ p, refP (txtC a 0 N) 0 0 0 ck0 = (if fitC a N then some (frC a N, N) else none, p)) := back_txt ha hN8
  have hB := below_one w (.cells (cv a) 23)
  have h1 := CkAt.new w ha.1
  have HK : Hid ((∀ k : Nat, k < 8 → ((k : Int) < z ↔ k < N)) ∧ (1 ≤ z ↔ 0 < N) ∧ (0 < N → z = (N : Int)) ∧ N ≤ 8) := ⟨hlt, hpos, hNz, hN8⟩
  clear hlt hNz hN8 HT hE hcn HS
  obtain ⟨f0, hf0⟩ : ∃ f0, decide (1 ≤ z) = f0 := ⟨_, rfl⟩
  have HF0 : Hid (f0 = fkC a N 0) := by rw [fkC_zero, ← hf0]; exact decide_eq_decide.2 hpos
  clear hpos
  go_enter Tryd.func3, Tryd.ntmps3
  go_upto_region 1 with fail
  refine wp_region_cls0 ?_
  repeat (first | go_big_quiet_skip | (go_big_quiet_want; first | (refine quiet_load_ck _ rfl rfl (cls_ck h1) ?_; simp only [Act.put, List.setIfInBounds_toArray, List.set_cons_succ, List.set_cons_zero]; go_big_quiet_on) | (go_big_quiet_op; first | go_big_quiet_on | go_big_quiet_call ((go_at_call 6; exact cls_of (H1.out _ (bgo hB (wOf_below _))))))))
  refine wpQuiet_nil ?_
  rintro w1 ⟨s1, e1⟩
  have hb1 := wOf_below s1
  rw [← e1] at hb1
  clear e1 s1
  replace h1 := h1.later hb1
  replace hB := bgo hB hb1
  clear hb1
  go_upto_region 2 with fail
  refine wp_region_cls0 ?_
  repeat (first | go_big_quiet_skip | (go_big_quiet_want; first | (refine quiet_load_ck _ rfl rfl (cls_ck h1) ?_; simp only [Act.put, List.setIfInBounds_toArray, List.set_cons_succ, List.set_cons_zero]; go_big_quiet_on) | (go_big_quiet_op; first | go_big_quiet_on | go_big_quiet_call ((go_at_call 7; exact cls_of (H2.out _))))))
  refine wpQuiet_nil ?_
  rintro w1 ⟨s1, e1⟩
  have hb1 := wOf_below s1
  rw [← e1] at hb1
  clear e1 s1
  replace h1 := h1.later hb1
  replace hB := bgo hB hb1
  clear hb1
  clear H1 H2
  go_wp2
  go_loopw [7, 8] (fun f i wr => ∃ k : Nat, i = .int .i64 (k : Int) ∧ k ≤ 8 ∧ f = .bool (fkC a N k) ∧ CkAt w.heap.size (xkC a N k) wr ∧ Below w.heap.size w wr) (fun _ i _ => 8 - (intOf i).toNat)
  case atStart => exact ⟨0, rfl, by omega, by rw [← HF0.out], by rw [xkC_zero ha.1]; exact h1, hB⟩
  case round =>
    obtain ⟨k, rfl, hk, rfl, h2, hB2⟩ := hrel
    clear h1 hB HF0
    by_cases hk8 : k < 8
    · have hk8i : (k : Int) < 8 := by omega
      have hnx := fkC_next a N k
      by_cases hkN : k < N
      · have hkn : (k : Int) < z := (HK.out.1 k hk8).2 hkN
        have c1 := h2.cell hk8
        rw [xkC_en a N k hk8, if_neg (by omega)] at c1
        have hkeep := hid_of (xkC_keep a hkN)
        by_cases hneg : en a k < 0
        · rw [decide_eq_false (by omega), Bool.and_false] at hnx
          have HN := hid_of hnx
          clear hnx
          go_wp2
          go_roundw
          case rel => exact ⟨k + 1, by go_num, by omega, by rw [HN.out], by rw [hkeep.out]; exact h2, hB2⟩
          case measure => simp [intOf]; omega
        · rw [decide_eq_true (by omega), Bool.and_true] at hnx
          have HN := hid_of hnx
          clear hnx
          go_wp2
          go_roundw
          case rel => exact ⟨k + 1, by go_num, by omega, by rw [HN.out], by rw [hkeep.out]; exact h2, hB2⟩
          case measure => simp [intOf]; omega
      · have hkn : ¬ (k : Int) < z := fun h => hkN ((HK.out.1 k hk8).1 h)
        have hput := hid_of (xkC_put a (n := N) (by omega) hk8)
        rw [decide_eq_true (.inl (by omega)), Bool.and_true] at hnx
        have HN := hid_of hnx
        clear hnx
        have c1 := h2.cell hk8
        have c2 := h2.frozen k
        go_wp2
        go_roundw
        case rel => exact ⟨k + 1, by go_num, by omega, by rw [HN.out], by rw [← hput.out]; exact h2.set k 0, hB2.setCell (by simp) _⟩
        case measure => simp [intOf]; omega
    · obtain rfl : k = 8 := by omega
      rw [xkC_end] at h2
      have hfe := fkC_end a HK.out.2.2.2
      obtain ⟨p, hrp⟩ := HF.out
      have HP' := hid_of (HP.out _ hB2)
      obtain ⟨b, hb⟩ : ∃ b, fitC a N = b := ⟨_, rfl⟩
      rw [hb] at hrp hfe
      rw [hrp] at HP'
      clear HF HP hrp
      have gd := ck_guard
      cases b with
      | false =>
        have HW : Hid (∀ x, Calls Tryd.prog 9 #[] x fun e w' => e = .returned (.bool true) ∧ Below x.heap.size x w') := wakesC_ok
        go_upto_region 16 with (first | (go_at_call 8; refine HP'.out.mono ?_; rintro e w2 ⟨v, rfl, hv, hb2⟩; obtain ⟨fv, rfl, bb, rfl⟩ := hv; clear HP') | (refine wpL_store rfl _ _ rfl rfl (v := ck0) rfl (CkAt.new w2 (x := ck0) rfl) rfl ?_))
        obtain ⟨k1, kB1⟩ := afterP w2 (a := ck0) rfl
        have hB := bgo (bgo hB2 hb2) kB1
        rw [ck0_cv] at hB
        go_upto_region 17 with fail
        refine wp_region_cls0 ?_
        repeat (first | go_big_quiet_skip | (go_big_quiet_want; first | (go_big_quiet_op; first | go_big_quiet_on | go_big_quiet_call ((go_at_call 9; exact cls_of (wakesC_ok _))))))
        refine wpQuiet_nil ?_
        rintro w1 ⟨s1, e1⟩
        have hb1 := wOf_below s1
        rw [← e1] at hb1
        clear e1 s1
        replace hB := bgo hB hb1
        clear hb1
        go_wp2
        go_ret
        exact ⟨rfl, hB⟩
      | true =>
        have hN0 : 0 < N := by
          unfold fitC at hb
          rw [Bool.and_eq_true] at hb
          exact of_decide_eq_true hb.1
        have hnz : z = (N : Int) := HK.out.2.2.1 hN0
        have q1 := eqIn_ck (frC a N) (frC a N) (frC_len a N) (frC_len a N)
        have s1 : (frC a N == frC a N) = true := by simp
        have hfl := frC_len a N
        subst hnz
        go_upto_region 16 with (first | (go_at_call 8; refine HP'.out.mono ?_; rintro e w2 ⟨v, rfl, hv, hb2⟩; obtain rfl := hv; clear HP') | (refine wpL_store rfl _ _ rfl rfl (v := frC a N) rfl (CkAt.new w2 (x := ck0) rfl) hfl ?_))
        obtain ⟨h9, kB1⟩ := afterP w2 (a := frC a N) hfl
        have hB := bgo (bgo hB2 hb2) kB1
        replace h2 := (h2.later hb2).later kB1
        rw [ck0_cv] at hB h2 h9
        go_upto_region 18 with fail
        refine wp_region_cls0 ?_
        repeat (first | go_big_quiet_skip | (go_big_quiet_want; first | (refine quiet_load_ck _ rfl rfl (cls_ck h9) ?_; simp only [Act.put, List.setIfInBounds_toArray, List.set_cons_succ, List.set_cons_zero]; go_big_quiet_on) | (refine quiet_load_ck _ rfl rfl (cls_ck h2) ?_; simp only [Act.put, List.setIfInBounds_toArray, List.set_cons_succ, List.set_cons_zero]; go_big_quiet_on) | (go_big_quiet_op; first | go_big_quiet_on | go_big_quiet_call ((go_at_call 9; exact cls_of (wakesC_ok _))))))
        refine wpQuiet_nil ?_
        rintro w1 ⟨s1, e1⟩
        have hb1 := wOf_below s1
        rw [← e1] at hb1
        clear e1 s1
        replace h9 := h9.later hb1
        replace h2 := h2.later hb1
        replace hB := bgo hB hb1
        clear hb1
        go_wp2
        go_ret
        exact ⟨rfl, hB⟩

theorem textC_all {a5 : Addr} (a : List Int) (z : Int) (w : World) (ha : Ck a) (HT : ∀ x, Below w.heap.size w x → TabIs Tryd.prog x "internal/strconv.uint64pow10" .u64 pow10Tab) (hE : ∀ x, Below w.heap.size w x → x.cell? ⟨0, 0, none⟩ = some (.iface 205 (.pointer (some a5)))) :
    Calls Tryd.prog 3 #[.agg (cv a), .int .i64 z] w fun e w' => e = .returned (.bool true) ∧ Below w.heap.size w w' := by
  by_cases hz : 8 < z
  · exact textC_big a z 8 w ha (by unfold cntC; rw [if_neg (by omega), if_pos hz]) (by omega) hz (fun k hk => by omega) (by omega) (fun _ => rfl) HT hE
  · refine textC_low a z (cntC z) w ha rfl (cntC_le z) (by omega) (fun k hk => ?_) ?_ ?_ HT hE
    all_goals (unfold cntC; rw [if_neg hz]; split <;> omega)
end Go.Proofs.YtcfefgcibdpmeaaDoor
