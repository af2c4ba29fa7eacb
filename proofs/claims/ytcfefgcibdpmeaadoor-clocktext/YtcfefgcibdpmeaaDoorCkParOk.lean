/-
  barrowlaw03.ClockParse.
-/
import Derived.Test.YtcfefgcibdpmeaaDoorCkParL
import Derived.Test.YtcfefgcibdpmeaaDoorCkText
import Derived.Test.YtcfefgcibdpmeaaDoorCkBack
namespace Go.Proofs.YtcfefgcibdpmeaaDoor
open Go.RowKit Go.Extern.Stop Go.Stop Go.Extern
open Go.Lib (TabIs pow10Tab)
set_option maxRecDepth 100000

theorem afterP (x : World) {a : List Int} (ha : a.length = 8) : CkAt x.heap.size a ((x.alloc (.cells (cv ck0) 23)).setRow x.heap.size (cv a)) ∧ Below x.heap.size x ((x.alloc (.cells (cv ck0) 23)).setRow x.heap.size (cv a)) :=
  ⟨(CkAt.new x (x := ck0) rfl).row ha, below_row (below_one _ _) (by omega) _⟩
theorem startR (x : World) : CkAt x.heap.size ck0 ((x.alloc (.cells (cv ck0) 23)).alloc (.cells #[.int .i64 0, .slice none 0 0, .slice none 0 0] 34)) ∧ RowAt (x.heap.size + 1) #[.int .i64 0, .slice none 0 0, .slice none 0 0] 34 ((x.alloc (.cells (cv ck0) 23)).alloc (.cells #[.int .i64 0, .slice none 0 0, .slice none 0 0] 34)) ∧ Below x.heap.size x ((x.alloc (.cells (cv ck0) 23)).alloc (.cells #[.int .i64 0, .slice none 0 0, .slice none 0 0] 34)) := by
  have h1 := CkAt.new x (x := ck0) rfl
  have h2 : RowAt (x.alloc (.cells (cv ck0) 23)).heap.size #[.int .i64 0, .slice none 0 0, .slice none 0 0] 34 ((x.alloc (.cells (cv ck0) 23)).alloc (.cells #[.int .i64 0, .slice none 0 0, .slice none 0 0] 34)) := heap_alloc_last _ _
  simp only [World.size_alloc] at h2
  exact ⟨h1.alloc _, h2, bgo (below_one x _) (below_one _ _)⟩
theorem afterR (x : World) {a : List Int} (ha : a.length = 8) (cs : Array Value) (y : World) (hy : y = ((((x.alloc (.cells (cv ck0) 23)).alloc (.cells #[.int .i64 0, .slice none 0 0, .slice none 0 0] 34)).setRow x.heap.size (cv a)).setRow (x.heap.size + 1) cs)) :
    CkAt x.heap.size a y ∧ RowAt (x.heap.size + 1) cs 34 y ∧ Below x.heap.size x y := by
  subst hy
  obtain ⟨h1, h2, hB⟩ := startR x
  exact ⟨(h1.row ha).rowOther _ _ (by omega), (h2.other _ _ (by omega)).put cs, below_row (below_row hB (by omega) _) (by omega) _⟩

set_option maxHeartbeats 4000000 in
theorem parC_some {ad : Nat → Addr} (s : ByteArray) (w : World) (L : Laid ad w) (hs : s.size ≤ 140737488355328) (HT : ∀ x, Below w.heap.size w x → TabIs Tryd.prog x "internal/strconv.uint64pow10" .u64 pow10Tab) {a : List Int} {n p : Nat} (he : refP s.data.toList 0 0 0 ck0 = (some (a, n), p)) :
    Calls Tryd.prog 4 #[.string s] w fun e w' => e = .returned (.bool true) ∧ Below w.heap.size w w' := by
  have hk := refP_ck he
  obtain ⟨_, h8, hal, ht⟩ := ref_txt he
  have gd := ck_guard
  have q1 := eqIn_ck a a hal hal
  have s1 : (a == a) = true := by simp
  have HP := hid_of (parse_laid s w L hs)
  have HR : Hid (∀ x, _) := fun x => refParse_any s x hs
  rw [he] at HP HR
  clear he
  go_enter Tryd.func4, Tryd.ntmps4
  go_upto_region 3 with (first | (go_at_call 8; refine HP.out.mono ?_; rintro e w1 ⟨v, rfl, hv, hb1⟩; obtain rfl := hv; clear HP) | (go_at_call 10; refine (HR.out _).mono ?_; rintro e w2 ⟨v, rfl, hv, hb2⟩; obtain rfl := hv; clear HR) | (refine wpL_store rfl _ _ rfl rfl (v := a) rfl (CkAt.new w1 (x := ck0) rfl) hal ?_) | (refine wpL_store rfl _ _ rfl rfl (v := a) rfl (startR w2).1 hal ?_) | (refine wpL_storeNo rfl _ _ rfl rfl rfl ((startR w2).2.1.other _ (cv a) (by omega)) ?_))
  obtain ⟨k1, kB1⟩ := afterP w1 (a := a) hal
  have hb2' : Below _ _ w2 := hb2
  have h1 := k1.later hb2'
  have hB2 := bgo (bgo hb1 kB1) hb2'
  obtain ⟨h2, h3, kB2⟩ := afterR w2 (a := a) hal (nov 0 none 0 0 none 0 0) _ rfl
  replace h1 := h1.later kB2
  have hB := bgo hB2 kB2
  have h3c : CsIn _ 0 _ _ := ⟨h3.lt, fun j v hv => by rw [Nat.zero_add, h3.cell]; exact hv⟩
  clear h3 kB2 hB2 k1 kB1 hb1 hb2 hb2'
  rw [ck0_cv] at h1 h2 h3c hB
  simp only [Act.put]
  refine wp_region_cls0 ?_
  repeat (first | go_big_quiet_skip | (go_big_quiet_want; first | (refine quiet_load_ck _ rfl rfl (cls_ck h1) ?_; simp only [Act.put, List.setIfInBounds_toArray, List.set_cons_succ, List.set_cons_zero]; go_big_quiet_on) | (refine quiet_load_ck _ rfl rfl (cls_ck h2) ?_; simp only [Act.put, List.setIfInBounds_toArray, List.set_cons_succ, List.set_cons_zero]; go_big_quiet_on) | (refine quiet_load_in _ _ rfl rfl h3c.cls Tryd.underlying34 rfl no_size ?_; simp only [Act.put, List.setIfInBounds_toArray, List.set_cons_succ, List.set_cons_zero]; go_big_quiet_on) | (go_big_quiet_op; first | go_big_quiet_on | go_big_quiet_call ((go_at_call 11; exact cls_of (refused_none _ _ _ _ _ _ _))))))
  refine wpQuiet_nil ?_
  rintro w1 ⟨s1, e1⟩
  have hb1 := wOf_below s1
  rw [← e1] at hb1
  clear e1 s1
  replace h1 := h1.later hb1
  replace h2 := h2.later hb1
  replace hB := bgo hB hb1
  clear hb1
  clear h3c
  have HX : Hid (∀ w', Below w1.heap.size w1 w' → Calls Tryd.prog 6 #[.agg (cv a), .int .i64 (n : Int)] w' fun e w'' => e = .returned (.string s) ∧ Below w'.heap.size w' w'') := fun w' hb => by
    have := text_gen a n n w' hk h8 (by omega) (fun x hx => HT x (bgo (bgo hB hb) hx))
    rw [← ht, Array.toArray_toList] at this
    exact this
  clear HT ht
  go_upto_region 5 with fail
  refine wp_region_cls0 ?_
  repeat (first | go_big_quiet_skip | (go_big_quiet_want; first | (refine quiet_load_ck _ rfl rfl (cls_ck h1) ?_; simp only [Act.put, List.setIfInBounds_toArray, List.set_cons_succ, List.set_cons_zero]; go_big_quiet_on) | (go_big_quiet_op; first | go_big_quiet_on | go_big_quiet_call ((first | (go_at_call 6; exact cls_of (HX.out _ (wOf_below _))) | (go_at_call 9; exact cls_of (wakesC_ok _)))))))
  refine wpQuiet_nil ?_
  rintro w1 ⟨s1, e1⟩
  have hb1 := wOf_below s1
  rw [← e1] at hb1
  clear e1 s1
  replace h1 := h1.later hb1
  replace hB := bgo hB hb1
  clear hb1
  go_wp2
  go_ret
  exact ⟨rfl, hB⟩

set_option maxHeartbeats 4000000 in
theorem parC_none {ad : Nat → Addr} (s : ByteArray) (w : World) (L : Laid ad w) (hs : s.size ≤ 140737488355328) {p : Nat} (he : refP s.data.toList 0 0 0 ck0 = (none, p)) :
    Calls Tryd.prog 4 #[.string s] w fun e w' => e = .returned (.bool true) ∧ Below w.heap.size w w' := by
  have hal : ck0.length = 8 := rfl
  have gd := ck_guard
  have q1 := eqIn_ck ck0 ck0 hal hal
  have s1 : (ck0 == ck0) = true := by simp
  have HP := hid_of (parse_laid s w L hs)
  have HR : Hid (∀ x, _) := fun x => refParse_any s x hs
  rw [he] at HP HR
  clear he
  go_enter Tryd.func4, Tryd.ntmps4
  go_upto_region 3 with (first | (go_at_call 8; refine HP.out.mono ?_; rintro e w1 ⟨v, rfl, hv, hb1⟩; obtain ⟨fv, rfl, b, _, rfl, hF⟩ := hv; clear HP) | (go_at_call 10; refine (HR.out _).mono ?_; rintro e w2 ⟨v, rfl, hv, hb2⟩; obtain ⟨nv, rfl, g, g', rfl, hc1, hc2⟩ := hv; clear HR) | (refine wpL_store rfl _ _ rfl rfl (v := ck0) rfl (CkAt.new w1 (x := ck0) rfl) hal ?_) | (refine wpL_store rfl _ _ rfl rfl (v := ck0) rfl (startR w2).1 hal ?_) | (refine wpL_storeNo rfl _ _ rfl rfl rfl ((startR w2).2.1.other _ (cv ck0) (by omega)) ?_))
  obtain ⟨k1, kB1⟩ := afterP w1 (a := ck0) hal
  have hb2' : Below _ _ w2 := hb2
  have h1 := k1.later hb2'
  have hB2 := bgo (bgo hb1 kB1) hb2'
  have L2 := L.below hB2
  have F2 := (hF.later kB1).later hb2'
  obtain ⟨h2, h3, kB2⟩ := afterR w2 (a := ck0) hal (nov 6 (some ⟨g', 0, none⟩) 1 1 (some ⟨g, 0, none⟩) 1 1) _ rfl
  replace h1 := h1.later kB2
  have hB := bgo hB2 kB2
  have h3c : CsIn _ 0 _ _ := ⟨h3.lt, fun j v hv => by rw [Nat.zero_add, h3.cell]; exact hv⟩
  have RF : Hid (∀ w', Below w2.heap.size w2 w' → Calls Tryd.prog 11 #[.iface 101 (.pointer (some ⟨b, 0, none⟩)), .agg (nov 6 (some ⟨g', 0, none⟩) 1 1 (some ⟨g, 0, none⟩) 1 1)] w' fun e w'' => e = .returned (.bool true) ∧ Below w'.heap.size w' w'') :=
    fun w' hb => refused_some (k := 5) (L2.below hb) (F2.later hb) (by decide) (hc1.later hb) (hc2.later hb)
  clear h3 hB2 k1 kB1 hb1 hb2 hb2' L2 F2 hc1 hc2 hF
  rw [ck0_cv] at h1 h2 h3c hB kB2
  simp only [Act.put]
  refine wp_region_cls0 ?_
  repeat (first | go_big_quiet_skip | (go_big_quiet_want; first | (refine quiet_load_ck _ rfl rfl (cls_ck h1) ?_; simp only [Act.put, List.setIfInBounds_toArray, List.set_cons_succ, List.set_cons_zero]; go_big_quiet_on) | (refine quiet_load_ck _ rfl rfl (cls_ck h2) ?_; simp only [Act.put, List.setIfInBounds_toArray, List.set_cons_succ, List.set_cons_zero]; go_big_quiet_on) | (refine quiet_load_in _ _ rfl rfl h3c.cls Tryd.underlying34 rfl no_size ?_; simp only [Act.put, List.setIfInBounds_toArray, List.set_cons_succ, List.set_cons_zero]; go_big_quiet_on) | (go_big_quiet_op; first | go_big_quiet_on | go_big_quiet_call ((go_at_call 11; exact cls_of (RF.out _ (bgo kB2 (wOf_below _))))))))
  refine wpQuiet_nil ?_
  rintro w1 ⟨s1, e1⟩
  have hb1 := wOf_below s1
  rw [← e1] at hb1
  clear e1 s1
  replace h1 := h1.later hb1
  replace h2 := h2.later hb1
  replace hB := bgo hB hb1
  clear hb1
  clear h3c RF kB2
  go_upto_region 5 with fail
  refine wp_region_cls0 ?_
  repeat (first | go_big_quiet_skip | (go_big_quiet_want; first | (refine quiet_load_ck _ rfl rfl (cls_ck h1) ?_; simp only [Act.put, List.setIfInBounds_toArray, List.set_cons_succ, List.set_cons_zero]; go_big_quiet_on) | (go_big_quiet_op; first | go_big_quiet_on | go_big_quiet_call ((go_at_call 9; exact cls_of (wakesC_ok _))))))
  refine wpQuiet_nil ?_
  rintro w1 ⟨s1, e1⟩
  have hb1 := wOf_below s1
  rw [← e1] at hb1
  clear e1 s1
  replace h1 := h1.later hb1
  replace hB := bgo hB hb1
  clear hb1
  go_wp2
  go_ret
  exact ⟨rfl, hB⟩

theorem parC_all {ad : Nat → Addr} (s : ByteArray) (w : World) (L : Laid ad w) (hs : s.size ≤ 140737488355328) (HT : ∀ x, Below w.heap.size w x → TabIs Tryd.prog x "internal/strconv.uint64pow10" .u64 pow10Tab) :
    Calls Tryd.prog 4 #[.string s] w fun e w' => e = .returned (.bool true) ∧ Below w.heap.size w w' := by
  obtain ⟨r, p, he⟩ : ∃ r p, refP s.data.toList 0 0 0 ck0 = (r, p) := ⟨_, _, rfl⟩
  match r, he with
  | some (a, n), he => exact parC_some s w L hs HT he
  | none, he => exact parC_none s w L hs he
end Go.Proofs.YtcfefgcibdpmeaaDoor
