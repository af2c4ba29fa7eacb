
/-
  Package bag: isRight, Load.
-/
import Derived.Test.YtbjbihgfkcnmbaaDoorBg10
namespace Go.Proofs.YtbjbihgfkcnmbaaDoor
open Go.RowKit Go.Extern.Stop Go.Stop Go.Extern
set_option maxRecDepth 100000

/-- May a parcel be loaded? -/
def rightP (q : Pl) : Bool := decide (1 ≤ q.s) && decide (q.s ≤ 4611686018427387904) && endsB q.f q.t
theorem rightP_ser {q : Pl} (h : rightP q = true) : 1 ≤ q.s ∧ q.s ≤ 4611686018427387904 ∧ endsB q.f q.t = true := by
  unfold rightP at h
  simp only [Bool.and_eq_true, decide_eq_true_eq] at h
  exact ⟨h.1.1, h.1.2, h.2⟩
set_option maxHeartbeats 2000000 in
theorem isRight_is {p : Pc} {q : Pl} {w : World} (h : PcR p q w) :
    Calls Tryd.prog 51 #[.agg (pcv p)] w fun e w' => e = .returned (.bool (rightP q)) ∧ Below w.heap.size w w' := by
  obtain ⟨s, f, t, b⟩ := p
  obtain ⟨h1, h2, h3, h4⟩ := h
  simp only at h1 h2 h3 h4
  subst h1 h2 h3
  have hB := below_one w (.cells #[.int .i64 q.s, .int .i64 q.f, .int .i64 q.t, b] 56)
  have r0 : RowAt w.heap.size #[.int .i64 q.s, .int .i64 q.f, .int .i64 q.t, b] 56 (w.alloc (.cells #[.int .i64 q.s, .int .i64 q.f, .int .i64 q.t, b] 56)) := row_new w _ _
  have HE := hid_of' (fun x => areEnds_is q.f q.t x)
  clear h4
  unfold rightP pcv
  go_enter Tryd.func51, Tryd.ntmps51
  go_upto_region 1 with fail
  generalize w.alloc (.cells #[.int .i64 q.s, .int .i64 q.f, .int .i64 q.t, b] 56) = w1 at r0 hB ⊢
  have c0 : ∀ s : Wld w1, (wOf s).cell? ⟨w.heap.size, 0, none⟩ = some (.int .i64 q.s) := r0.cls 0 _ rfl
  have c1 : ∀ s : Wld w1, (wOf s).cell? ⟨w.heap.size, 1, none⟩ = some (.int .i64 q.f) := r0.cls 1 _ rfl
  have c2 : ∀ s : Wld w1, (wOf s).cell? ⟨w.heap.size, 2, none⟩ = some (.int .i64 q.t) := r0.cls 2 _ rfl
  clear r0
  cases k1 : decide (1 ≤ q.s)
  ·
    refine wp_region_cls0 ?_
    repeat (first | go_big_quiet_skip | (go_big_quiet_want; first | (go_big_quiet_op; first | go_big_quiet_on | go_big_quiet_call ((fail)))))
    refine wpQuiet_nil ?_
    rintro w1 ⟨s1, e1⟩
    have hb1 := wOf_below s1
    rw [← e1] at hb1
    clear e1 s1
    replace hB := bgo hB hb1
    clear hb1
    go_wp2
    go_ret
    exact ⟨by rw [k1]; rfl, hB⟩
  · cases k2 : decide (q.s ≤ 4611686018427387904)
    ·
      refine wp_region_cls0 ?_
      repeat (first | go_big_quiet_skip | (go_big_quiet_want; first | (go_big_quiet_op; first | go_big_quiet_on | go_big_quiet_call ((fail)))))
      refine wpQuiet_nil ?_
      rintro w1 ⟨s1, e1⟩
      have hb1 := wOf_below s1
      rw [← e1] at hb1
      clear e1 s1
      replace hB := bgo hB hb1
      clear hb1
      go_wp2
      go_ret
      exact ⟨by rw [k1, k2]; rfl, hB⟩
    ·
      refine wp_region_cls0 ?_
      repeat (first | go_big_quiet_skip | (go_big_quiet_want; first | (go_big_quiet_op; first | go_big_quiet_on | go_big_quiet_call ((go_at_call 55; exact cls_of_same (HE.out _))))))
      refine wpQuiet_nil ?_
      rintro w1 ⟨s1, e1⟩
      have hb1 := wOf_below s1
      rw [← e1] at hb1
      clear e1 s1
      replace hB := bgo hB hb1
      clear hb1
      go_wp2
      go_ret
      exact ⟨by rw [k1, k2]; rfl, hB⟩
/-- The greatest Serial of some. -/
def maxS : List Pl → Int
  | [] => 0
  | q :: l => max q.s (maxS l)
theorem maxS_app : ∀ (l : List Pl) (q : Pl), maxS (l ++ [q]) = max (maxS l) q.s
  | [], q => by simp [maxS]; omega
  | a :: l, q => by simp only [List.cons_append, maxS, maxS_app l q]; omega
/-- The first i are right. -/
def RightTo (l : List Pl) (i : Nat) : Prop := ∀ (j : Nat) (q : Pl), j < i → l[j]? = some q → rightP q = true
set_option maxHeartbeats 4000000 in
theorem load_bad {ad : Nat → Addr} {w : World} {v : Value} {l : List Pl} (L : Laid ad w) (h : SlQ w v l) (m : Int) (h0 : 0 ≤ m) (h1 : m ≤ 4096) (hl : (l.length : Int) ≤ m) (i : Nat) (q : Pl) (hq : l[i]? = some q) (hb : rightP q = false) (hto : RightTo l i) :
    Calls Tryd.prog 15 #[.int .i64 m, v] w fun e w' => ∃ u, e = .returned (.tuple #[.pointer none, u]) ∧ ErrR ad w.heap.size (some (bLoad, (i : Int), 5)) u w' ∧ Below w.heap.size w w' := by
  obtain ⟨a, c, rfl⟩ := h.form
  have HM := hid_of' (isMost_yes m h0 h1 w)
  have H := hid_of' (And.intro h (And.intro L (And.intro hq (And.intro hb hto))))
  have hil := (List.getElem?_eq_some_iff.1 hq).1
  have hnl : ¬ m < (l.length : Int) := by omega
  have hl4 : l.length ≤ 4096 := by omega
  clear h L hq hb hto h0 h1 hl
  go_enter Tryd.func15, Tryd.ntmps15
  go_wp2_with (go_at_call 29; refine HM.out.mono ?_; rintro e w1 ⟨rfl, h0⟩; obtain rfl := h0.symm)
  go_loopw [6, 25] (fun lv kv wr => ∃ (k : Nat) (z : Int), lv = .int .i64 z ∧ kv = .int .i64 (k : Int) ∧ k ≤ i ∧ Below w.heap.size w wr) (fun _ kv _ => l.length - (intOf kv).toNat)
  case atStart => exact ⟨0, 0, rfl, rfl, by omega, Below.refl _ _⟩
  case round =>
    rename_i wr
    obtain ⟨k, z, rfl, rfl, hk, hB⟩ := hrel
    have hki : (k : Int) < (l.length : Int) := by omega
    obtain ⟨r, hr⟩ : ∃ r, l[k]? = some r := ⟨_, List.getElem?_eq_getElem (by omega)⟩
    obtain ⟨g, o_, p, rfl, hpr, _, hin⟩ := H.out.1.at hr
    have HX := hid_of' (And.intro (hin.later hB) (And.intro (hpr.later hB) (And.intro hB hr)))
    have HP1 : p.b.oneCell' = true := hpr.b.one
    clear hin hpr hB hr
    go_upto_region 9 with (first | (refine wpL_loadP (p := p) rfl _ rfl rfl HX.out.1 ?_) | (refine wpL_stNewP (p := p) rfl _ _ rfl rfl rfl rfl rfl rfl HP1 ?_; go_simp))
    have r5 := row_new wr (pcv p) 56
    have hb5 := below_one wr (.cells (pcv p) 56)
    have hR := isRight_is (HX.out.2.1.later hb5)
    have H5 := hid_of' (And.intro r5 (bgo HX.out.2.2.1 hb5))
    clear r5 hb5
    by_cases hki2 : k < i
    · rw [H.out.2.2.2.2 k r hki2 HX.out.2.2.2] at hR
      have HR := hid_of' hR
      clear hR
      generalize wr.alloc (.cells (pcv p) 56) = w5 at HR H5 ⊢
      go_upto_region 11 with (first | (refine wpL_loadP (p := p) rfl _ rfl rfl H5.out.1.in ?_) | (go_at_call 51; refine HR.out.mono ?_; rintro e w6 ⟨rfl, hb6⟩; clear HR))
      have c0 : w6.cell? ⟨wr.heap.size, 0, none⟩ = some (.int .i64 p.s) := (H5.out.1.later hb6).cellIs 0 rfl
      have HB := hid_of' (bgo H5.out.2 hb6)
      clear hb6
      go_wp2
      go_roundw
      case rel => exact ⟨k + 1, _, rfl, by go_num, by omega, HB.out⟩
      case measure => simp [intOf]; omega
    · have hke : k = i := by omega
      have hqr : r = q := Option.some.inj (HX.out.2.2.2.symm.trans (by rw [hke]; exact H.out.2.2.1))
      rw [hqr, H.out.2.2.2.1] at hR
      have HR := hid_of' hR
      have HK := hid_of' hke
      clear hR hke hqr
      generalize wr.alloc (.cells (pcv p) 56) = w5 at HR H5 ⊢
      go_upto_region 10 with (first | (refine wpL_loadP (p := p) rfl _ rfl rfl H5.out.1.in ?_) | (go_at_call 51; refine HR.out.mono ?_; rintro e w6 ⟨rfl, hb6⟩; clear HR))
      have HB := hid_of' (bgo H5.out.2 hb6)
      clear hb6
      have LV : w6.cell? ⟨1, 0, none⟩ = some (.iface 156 (.pointer (some (ad 5)))) := (H.out.2.1.below HB.out).var 5 (by decide)
      have HN := hid_of' (newF (ad := ad) bBag bLoad (k : Int) 5 w6)
      go_wp2_with (go_at_call 30; refine HN.out.mono ?_; rintro r w7 ⟨rfl, hf, hb7⟩)
      go_ret2
      rw [HK.out] at hf
      exact ⟨_, rfl, ⟨_, rfl, HB.out.size, by decide, hf⟩, bgo HB.out hb7⟩
/-- A Bag that was loaded. -/
def ldG (m : Int) (l : List Pl) : Bg := ⟨m, maxS l, 0, 0, 0, 0, l⟩
set_option maxHeartbeats 4000000 in
theorem load_ok {w : World} {v : Value} {l : List Pl} (h : SlQ w v l) (m : Int) (h0 : 0 ≤ m) (h1 : m ≤ 4096) (hl : (l.length : Int) ≤ m) (hto : RightTo l l.length) :
    Calls Tryd.prog 15 #[.int .i64 m, v] w fun e w' => ∃ B v', e = .returned (.tuple #[.pointer (some ⟨B, 0, none⟩), .nilIface]) ∧ w.heap.size ≤ B ∧ BgAt B v' (ldG m l) (fun k => w.heap.size ≤ k) w' ∧ (∀ k, v'.ownBlock = some k → w.heap.size ≤ k) ∧ Below w.heap.size w w' := by
  obtain ⟨a, c, rfl⟩ := h.form
  have HM := hid_of' (isMost_yes m h0 h1 w)
  have H := hid_of' (And.intro h (And.intro hto (And.intro h0 (And.intro h1 hl))))
  have hnl : ¬ m < (l.length : Int) := by omega
  have hl4 : l.length ≤ 4096 := by omega
  clear h hto h0 h1 hl
  go_enter Tryd.func15, Tryd.ntmps15
  go_wp2_with (go_at_call 29; refine HM.out.mono ?_; rintro e w1 ⟨rfl, h0⟩; obtain rfl := h0.symm)
  go_loopw [6, 25] (fun lv kv wr => ∃ k : Nat, lv = .int .i64 (maxS (l.take k)) ∧ kv = .int .i64 (k : Int) ∧ k ≤ l.length ∧ Below w.heap.size w wr) (fun _ kv _ => l.length - (intOf kv).toNat)
  case atStart => exact ⟨0, by simp [maxS], rfl, by omega, Below.refl _ _⟩
  case round =>
    rename_i wr
    obtain ⟨k, rfl, rfl, hk, hB⟩ := hrel
    by_cases hkl : k < l.length
    · have hki : (k : Int) < (l.length : Int) := by omega
      obtain ⟨r, hr⟩ : ∃ r, l[k]? = some r := ⟨_, List.getElem?_eq_getElem (by omega)⟩
      obtain ⟨g, o_, p, rfl, hpr, _, hin⟩ := H.out.1.at hr
      have HX := hid_of' (And.intro (hin.later hB) (And.intro (hpr.later hB) (And.intro hB hr)))
      have HP1 : p.b.oneCell' = true := hpr.b.one
      have HPS := hid_of' hpr.s
      clear hin hpr hB hr
      obtain ⟨Z, hZ⟩ : ∃ Z, maxS (l.take k) = Z := ⟨_, rfl⟩
      rw [hZ]
      have HZ := hid_of' hZ
      clear hZ
      go_upto_region 9 with (first | (refine wpL_loadP (p := p) rfl _ rfl rfl HX.out.1 ?_) | (refine wpL_stNewP (p := p) rfl _ _ rfl rfl rfl rfl rfl rfl HP1 ?_; go_simp))
      have r5 := row_new wr (pcv p) 56
      have hb5 := below_one wr (.cells (pcv p) 56)
      have hR := isRight_is (HX.out.2.1.later hb5)
      have H5 := hid_of' (And.intro r5 (bgo HX.out.2.2.1 hb5))
      clear r5 hb5
      rw [H.out.2.1 k r hkl HX.out.2.2.2] at hR
      have HR := hid_of' hR
      clear hR
      generalize wr.alloc (.cells (pcv p) 56) = w5 at HR H5 ⊢
      go_upto_region 11 with (first | (refine wpL_loadP (p := p) rfl _ rfl rfl H5.out.1.in ?_) | (go_at_call 51; refine HR.out.mono ?_; rintro e w6 ⟨rfl, hb6⟩; clear HR))
      have c0 : w6.cell? ⟨wr.heap.size, 0, none⟩ = some (.int .i64 p.s) := (H5.out.1.later hb6).cellIs 0 rfl
      have HB := hid_of' (bgo H5.out.2 hb6)
      clear hb6
      go_wp2
      go_roundw
      case rel => exact ⟨k + 1, by rw [take_one HX.out.2.2.2, maxS_app, HZ.out, HPS.out], by go_num, by omega, HB.out⟩
      case measure => simp [intOf]; omega
    · have hki : ¬ (k : Int) < (l.length : Int) := by omega
      have hkk : k = l.length := by omega
      have hm : maxS (l.take k) = maxS l := by rw [hkk, List.take_length]
      rw [hm]
      have HA := hid_of' (allOwn_any (H.out.1.later hB) hl4)
      have HB := hid_of' hB
      clear hB hkk hm
      go_upto_region 13 with fail
      go_wp2_with (go_at_call 52; refine HA.out.mono ?_; rintro e w3 ⟨u, rfl, h1, h2, h3⟩; clear HA; have HU := hid_of' (And.intro h1 (And.intro h2 h3)); clear h1 h2 h3; obtain ⟨ua, uc, rfl, _, _⟩ := HU.out.1.form)
      go_ret2
      have hs := HB.out.size
      have hs3 := HU.out.2.2.size
      refine ⟨w3.heap.size, _, rfl, by omega, ⟨row_new w3 _ _, (HU.out.1.later (below_one _ _)).mono (fun k hk _ => by omega), H.out.2.2.1, H.out.2.2.2.1, H.out.2.2.2.2⟩, fun k' hk' => by have := HU.out.2.1 k' hk'; omega, ?_⟩
      exact (bgo (bgo HB.out HU.out.2.2) (below_one _ _))
end Go.Proofs.YtbjbihgfkcnmbaaDoor
