
/-
  Parcels and a call that came in: from the argument as the form reads it to what the walks use. Package bag: isRight, Load. barrowlaw10.BagNames.
-/
import Derived.Test.YtdojjhhnciaegaaDoorZb23
import Derived.Test.YtdojjhhnciaegaaDoorZb26
import Derived.SizedLaws
import Derived.Test.YtdojjhhnciaegaaDoorZb22
namespace Go.Proofs.YtdojjhhnciaegaaDoor
open Go.ChangeShapes Go.WideShapes Go.ChangeAt Go.RowKit Go.Deep
set_option maxRecDepth 100000

instance : Inhabited (Pc × Pl) := ⟨⟨⟨0, 0, 0, .slice none 0 0⟩, ⟨0, 0, 0, []⟩⟩⟩
theorem cellsPcB : Tryd.prog.cellsOf 65 = 4 := by kernel_rfl
theorem bytesB : Tryd.prog.bytesOf 5 = 1 := by kernel_rfl
section
variable {H : Type} {enc : TypeId × Value → H} {W : World} {base : Nat}
theorem mem_weightsAll {P : Program} {e : TypeId} : ∀ {l : List (DataW H)} {d : DataW H}, d ∈ l → ∀ n ∈ d.weights P e, n ∈ DataW.weightsAll P e l
  | a :: l, d, hd, n, hn => by
    simp only [DataW.weightsAll, List.mem_append]
    rcases List.mem_cons.1 hd with rfl | h
    · exact .inl hn
    · exact .inr (mem_weightsAll h n hn)
/-- Bytes that came in, by their one cell, within the reach. -/
theorem open_bsW {cs : List Value} {fuel : Nat} {x : DataW H × List MemPlace} (hf : DataW.trod enc Tryd.prog W 0 (fun _ => true) true fuel 41 cs = some x) (hz : ∀ n ∈ x.1.weights Tryd.prog 41, n ≤ 140737488351232) :
    ∃ v, ∃ bs : List UInt8, cs = [v] ∧ SlB W v bs ∧ bs.length ≤ 140737488351232 := by
  obtain ⟨v, bs, hcs, hs, _⟩ := open_bsC hf
  refine ⟨v, bs, hcs, hs, ?_⟩
  obtain ⟨a0, c0, hv⟩ := hs.form
  rcases open_ints Tryd.underlying41 Tryd.underlying5 cellsB hf with ⟨hcs', hx⟩ | ⟨a, len, cap, zs, hcs', _, hl, hm, hz', hx, hcell, hwz⟩
  · rw [hcs, hv] at hcs'
    have := (Value.slice.inj (List.cons.inj hcs').1).2.1
    omega
  · rw [hcs, hv] at hcs'
    have hbl := (Value.slice.inj (List.cons.inj hcs').1).2.1
    simp only [if_true] at hz'
    have h1 := hz ((len + (zs.drop len).length) * Tryd.prog.bytesOf 5) (by
      rw [hx]
      simp only [DataW.weights, Tryd.underlying41]
      refine List.mem_cons.2 (.inl ?_)
      congr 1
      simp [lits]
      omega)
    rw [bytesB, Nat.mul_one] at h1
    omega
/-- Parcels that came in. -/
theorem open_psB {v : Value} {d : DataW H} {p : List MemPlace} (hval : Value.okWide Tryd.prog W .any base 45 v) (h : DataW.Trod enc Tryd.prog W 0 (fun _ => true) true 45 v d p) (hz : ∀ n ∈ d.weights Tryd.prog 45, n ≤ 140737488351232) :
    ∃ l : List Pl, SlQ W v l ∧ ∀ a n c, v = .slice a n c → n ≤ c := by
  obtain ⟨a1, len, cap, rfl⟩ := okWide_slice Tryd.underlying45 hval
  obtain ⟨fuel, hf⟩ := h
  rcases open_slice Tryd.underlying45 hf with ⟨hcs, hx⟩ | ⟨a, len', cap', m, n, D, Pl_, hcs, _, hl, hm, hmm, hx, hcell⟩
  · simp [Value.cells] at hcs
    obtain ⟨rfl, rfl, rfl⟩ := hcs
    exact ⟨[], .inl ⟨rfl, _, _, rfl⟩, fun a n c e => by cases e; omega⟩
  · simp [Value.cells] at hcs
    obtain ⟨rfl, rfl, rfl⟩ := hcs
    simp only [if_true] at hmm
    subst hmm
    have hd : d = .slice ((List.range len).map D) ((List.range (m - len)).map fun j => D (len + j)) := by
      have := congrArg Prod.fst hx
      exact this
    have each : ∀ i, i < len → ∃ x : Pc × Pl, PcR x.1 x.2 W ∧ x.2.bs.length ≤ 140737488351232 ∧ ∀ j v, (pcv x.1)[j]? = some v → W.cell? (a.add (i * 4 + j)) = some v := by
      intro i hi
      obtain ⟨cs', h1, h2⟩ := hcell i (by omega)
      rw [cellsPcB] at h1
      obtain ⟨_, hlen, hc⟩ := World.cells?_some h1
      obtain ⟨y0, y1, y2, y3, k, hD, _, g0, g1, g2, g3⟩ := Go.Joins.trod_struct4 Tryd.underlying65 h2
      have hw3 : ∀ n ∈ y3.1.weights Tryd.prog 41, n ≤ 140737488351232 := fun n hn => by
        refine hz n ?_
        rw [hd]
        simp only [DataW.weights, Tryd.underlying45]
        refine List.mem_cons.2 (.inr (List.mem_append_left _ (mem_weightsAll (d := D i) (List.mem_map.2 ⟨i, List.mem_range.2 hi, rfl⟩) n ?_)))
        have hDi : D i = .agg [y0.1, y1.1, y2.1, y3.1] := congrArg Prod.fst hD
        rw [hDi]
        simp only [DataW.weights, Tryd.underlying65]
        exact DataW.weights_mem_each (j := 3) (t := 41) rfl rfl n hn
      match cs', hlen with
      | [x0, x1, x2, x3], _ =>
        simp only [cellsIntB, cellsBsB] at g0 g1 g2 g3
        obtain ⟨k0, e0, _, wf0⟩ := DataW.trod_int Tryd.underlying3 g0
        obtain ⟨k1, e1, _, wf1⟩ := DataW.trod_int Tryd.underlying3 g1
        obtain ⟨k2, e2, _, wf2⟩ := DataW.trod_int Tryd.underlying3 g2
        obtain ⟨k3, l3, e3, s3, c3⟩ := open_bsW g3 hw3
        simp at e0 e1 e2 e3
        subst e0 e1 e2 e3
        refine ⟨(⟨k0, k1, k2, x3⟩, ⟨k0, k1, k2, l3⟩), ⟨rfl, rfl, rfl, s3⟩, c3, fun j v hv => ?_⟩
        have hj : j < 4 := by
          have := (Array.getElem?_eq_some_iff.1 hv).1
          simpa [pcv] using this
        have := hc j hj
        rw [add_add] at this
        rw [this]
        simpa [pcv] using hv
    obtain ⟨f, hf⟩ := choose_lt (α := Pc × Pl) each
    refine ⟨(List.range len).map fun i => (f i).2, ?_, fun a n c e => by cases e; omega⟩
    by_cases h0 : len = 0
    · subst h0
      exact .inl ⟨by simp, _, _, rfl⟩
    · obtain ⟨ab, ao, spot⟩ := a
      have c0 := (hf 0 (by omega)).2.2 0 _ (show (pcv (f 0).1)[0]? = some (.int .i64 (f 0).1.s) from rfl)
      have hspot : spot = none := by simpa [Addr.add] using World.cell?_spot c0
      subst hspot
      have hblk : ab < W.heap.size := by
        have := World.block_lt_of_cell? _ _ c0
        simpa [Addr.add] using this
      refine .inr ⟨ab, ao, _, (List.range len).map fun i => (f i).1, by rw [List.length_map, List.length_range], by simp, fun i x y hi hy => ?_⟩
      have hil : i < len := by have := (List.getElem?_eq_some_iff.1 hi).1; simpa using this
      have hx : (f i).1 = x := by
        simp only [List.getElem?_map, List.getElem?_range hil, Option.map_some, Option.some.injEq] at hi
        exact hi
      have hy : (f i).2 = y := by
        simp only [List.getElem?_map, List.getElem?_range hil, Option.map_some, Option.some.injEq] at hy
        exact hy
      have := hf i hil
      rw [hx, hy] at this
      refine ⟨this.1, this.2.1, hblk, fun j v hv => ?_⟩
      have h3 := this.2.2 j v hv
      rw [Addr.add_lit] at h3
      rw [Nat.add_assoc]; exact h3
/-- A call that came in. -/
theorem open_obV {v : Value} {d : DataW H} {p : List MemPlace} (hval : Value.okWide Tryd.prog W .any base 43 v) (h : DataW.Trod enc Tryd.prog W 0 (fun _ => true) true 43 v d p) :
    ∃ x : Opb, v = .agg (ocb x) ∧ x.Ok W := by
  obtain ⟨cs, rfl, hsz⟩ := okWide_struct Tryd.underlying43 hval
  obtain ⟨fuel, hf⟩ := h
  obtain ⟨y0, y1, y2, y3, k, _, hl, g0, g1, g2, g3⟩ := Go.Joins.trod_struct4 Tryd.underlying43 hf
  rw [cellsObB] at hl
  have hcs : (Value.agg cs).cells.toList = cs.toList := rfl
  rw [hcs] at hl g0 g1 g2 g3
  obtain ⟨cs⟩ := cs
  clear hsz hval hcs hf
  match cs, hl with
  | [x0, x1, x2, x3], _ =>
    simp only [cellsIntB, cellsBsB] at g0 g1 g2 g3
    obtain ⟨k0, e0, _, wf0⟩ := DataW.trod_int Tryd.underlying3 g0
    obtain ⟨k1, e1, _, wf1⟩ := DataW.trod_int Tryd.underlying3 g1
    obtain ⟨k2, e2, _, wf2⟩ := DataW.trod_int Tryd.underlying3 g2
    obtain ⟨k3, l3, e3, s3, c3⟩ := open_bsC g3
    simp at e0 e1 e2 e3
    subst e0 e1 e2 e3
    exact ⟨⟨k0, k1, k2, x3, l3⟩, rfl, wf_i64 wf0, wf_i64 wf1, wf_i64 wf2, s3, c3⟩
end
end Go.Proofs.YtdojjhhnciaegaaDoor
namespace Go.Proofs.YtdojjhhnciaegaaDoor
open Go.RowKit Go.Extern.Stop Go.Stop Go.Extern
set_option maxRecDepth 100000

/-- May a parcel be loaded? -/
def rightP (q : Pl) : Bool := decide (1 ≤ q.s) && decide (q.s ≤ 4611686018427387904) && endsB q.f q.t
theorem rightP_ser {q : Pl} (h : rightP q = true) : 1 ≤ q.s ∧ q.s ≤ 4611686018427387904 ∧ endsB q.f q.t = true := by
  unfold rightP at h
  simp only [Bool.and_eq_true, decide_eq_true_eq] at h
  exact ⟨h.1.1, h.1.2, h.2⟩
set_option maxHeartbeats 2000000 in
theorem isRight_is {p : Pc} {q : Pl} {w : World} (h : PcR p q w) :
    Calls Tryd.prog 47 #[.agg (pcv p)] w fun e w' => e = .returned (.bool (rightP q)) ∧ Below w.heap.size w w' := by
  obtain ⟨s, f, t, b⟩ := p
  obtain ⟨h1, h2, h3, h4⟩ := h
  simp only at h1 h2 h3 h4
  subst h1 h2 h3
  have hB := below_one w (.cells #[.int .i64 q.s, .int .i64 q.f, .int .i64 q.t, b] 65)
  have r0 : RowAt w.heap.size #[.int .i64 q.s, .int .i64 q.f, .int .i64 q.t, b] 65 (w.alloc (.cells #[.int .i64 q.s, .int .i64 q.f, .int .i64 q.t, b] 65)) := row_new w _ _
  have HE := hid_of' (fun x => areEnds_is q.f q.t x)
  clear h4
  unfold rightP pcv
  go_enter Tryd.func47, Tryd.ntmps47
  go_upto_region 1 with fail
  generalize w.alloc (.cells #[.int .i64 q.s, .int .i64 q.f, .int .i64 q.t, b] 65) = w1 at r0 hB ⊢
  have c0 : ∀ s : Wld w1, (wOf s).cell? ⟨w.heap.size, 0, none⟩ = some (.int .i64 q.s) := r0.cls 0 _ rfl
  have c1 : ∀ s : Wld w1, (wOf s).cell? ⟨w.heap.size, 1, none⟩ = some (.int .i64 q.f) := r0.cls 1 _ rfl
  have c2 : ∀ s : Wld w1, (wOf s).cell? ⟨w.heap.size, 2, none⟩ = some (.int .i64 q.t) := r0.cls 2 _ rfl
  clear r0
  cases k1 : decide (1 ≤ q.s)
  ·
    refine wp_region_cls0 ?_
    repeat (first | go_big_quiet_skip | (go_big_quiet_want; first | (go_big_quiet_op; first | go_big_quiet_on | go_big_quiet_call ((fail)))))
    refine wpQuiet_nil ?_
    rintro w1 ⟨s1, e1⟩
    have hb1 := wOf_below s1
    rw [← e1] at hb1
    clear e1 s1
    replace hB := bgo hB hb1
    clear hb1
    go_wp2
    go_ret
    exact ⟨by rw [k1]; rfl, hB⟩
  · cases k2 : decide (q.s ≤ 4611686018427387904)
    ·
      refine wp_region_cls0 ?_
      repeat (first | go_big_quiet_skip | (go_big_quiet_want; first | (go_big_quiet_op; first | go_big_quiet_on | go_big_quiet_call ((fail)))))
      refine wpQuiet_nil ?_
      rintro w1 ⟨s1, e1⟩
      have hb1 := wOf_below s1
      rw [← e1] at hb1
      clear e1 s1
      replace hB := bgo hB hb1
      clear hb1
      go_wp2
      go_ret
      exact ⟨by rw [k1, k2]; rfl, hB⟩
    ·
      refine wp_region_cls0 ?_
      repeat (first | go_big_quiet_skip | (go_big_quiet_want; first | (go_big_quiet_op; first | go_big_quiet_on | go_big_quiet_call ((go_at_call 56; exact cls_of_same (HE.out _))))))
      refine wpQuiet_nil ?_
      rintro w1 ⟨s1, e1⟩
      have hb1 := wOf_below s1
      rw [← e1] at hb1
      clear e1 s1
      replace hB := bgo hB hb1
      clear hb1
      go_wp2
      go_ret
      exact ⟨by rw [k1, k2]; rfl, hB⟩
/-- The greatest Serial of some. -/
def maxS : List Pl → Int
  | [] => 0
  | q :: l => max q.s (maxS l)
theorem maxS_app : ∀ (l : List Pl) (q : Pl), maxS (l ++ [q]) = max (maxS l) q.s
  | [], q => by simp [maxS]; omega
  | a :: l, q => by simp only [List.cons_append, maxS, maxS_app l q]; omega
/-- The first i are right. -/
def RightTo (l : List Pl) (i : Nat) : Prop := ∀ (j : Nat) (q : Pl), j < i → l[j]? = some q → rightP q = true
set_option maxHeartbeats 4000000 in
theorem load_bad {ad : Nat → Addr} {w : World} {v : Value} {l : List Pl} (L : Laid ad w) (h : SlQ w v l) (m : Int) (h0 : 0 ≤ m) (h1 : m ≤ 4096) (hl : (l.length : Int) ≤ m) (i : Nat) (q : Pl) (hq : l[i]? = some q) (hb : rightP q = false) (hto : RightTo l i) :
    Calls Tryd.prog 12 #[.int .i64 m, v] w fun e w' => ∃ u, e = .returned (.tuple #[.pointer none, u]) ∧ ErrR ad w.heap.size (some (bLoad, (i : Int), 5)) u w' ∧ Below w.heap.size w w' := by
  obtain ⟨a, c, rfl⟩ := h.form
  have HM := hid_of' (isMost_yes m h0 h1 w)
  have H := hid_of' (And.intro h (And.intro L (And.intro hq (And.intro hb hto))))
  have hil := (List.getElem?_eq_some_iff.1 hq).1
  have hnl : ¬ m < (l.length : Int) := by omega
  have hl4 : l.length ≤ 4096 := by omega
  clear h L hq hb hto h0 h1 hl
  go_enter Tryd.func12, Tryd.ntmps12
  go_wp2_with (go_at_call 14; refine HM.out.mono ?_; rintro e w1 ⟨rfl, h0⟩; obtain rfl := h0.symm)
  go_loopw [6, 25] (fun lv kv wr => ∃ (k : Nat) (z : Int), lv = .int .i64 z ∧ kv = .int .i64 (k : Int) ∧ k ≤ i ∧ Below w.heap.size w wr) (fun _ kv _ => l.length - (intOf kv).toNat)
  case atStart => exact ⟨0, 0, rfl, rfl, by omega, Below.refl _ _⟩
  case round =>
    rename_i wr
    obtain ⟨k, z, rfl, rfl, hk, hB⟩ := hrel
    have hki : (k : Int) < (l.length : Int) := by omega
    obtain ⟨r, hr⟩ : ∃ r, l[k]? = some r := ⟨_, List.getElem?_eq_getElem (by omega)⟩
    obtain ⟨g, o_, p, rfl, hpr, _, hin⟩ := H.out.1.at hr
    have HX := hid_of' (And.intro (hin.later hB) (And.intro (hpr.later hB) (And.intro hB hr)))
    have HP1 : p.b.oneCell' = true := hpr.b.one
    clear hin hpr hB hr
    go_upto_region 9 with (first | (refine wpL_loadP (p := p) rfl _ rfl rfl HX.out.1 ?_) | (refine wpL_stNewP (p := p) rfl _ _ rfl rfl rfl rfl rfl rfl HP1 ?_; go_simp))
    have r5 := row_new wr (pcv p) 65
    have hb5 := below_one wr (.cells (pcv p) 65)
    have hR := isRight_is (HX.out.2.1.later hb5)
    have H5 := hid_of' (And.intro r5 (bgo HX.out.2.2.1 hb5))
    clear r5 hb5
    by_cases hki2 : k < i
    · rw [H.out.2.2.2.2 k r hki2 HX.out.2.2.2] at hR
      have HR := hid_of' hR
      clear hR
      generalize wr.alloc (.cells (pcv p) 65) = w5 at HR H5 ⊢
      go_upto_region 11 with (first | (refine wpL_loadP (p := p) rfl _ rfl rfl H5.out.1.in ?_) | (go_at_call 47; refine HR.out.mono ?_; rintro e w6 ⟨rfl, hb6⟩; clear HR))
      have c0 : w6.cell? ⟨wr.heap.size, 0, none⟩ = some (.int .i64 p.s) := (H5.out.1.later hb6).cellIs 0 rfl
      have HB := hid_of' (bgo H5.out.2 hb6)
      clear hb6
      go_wp2
      go_roundw
      case rel => exact ⟨k + 1, _, rfl, by go_num, by omega, HB.out⟩
      case measure => simp [intOf]; omega
    · have hke : k = i := by omega
      have hqr : r = q := Option.some.inj (HX.out.2.2.2.symm.trans (by rw [hke]; exact H.out.2.2.1))
      rw [hqr, H.out.2.2.2.1] at hR
      have HR := hid_of' hR
      have HK := hid_of' hke
      clear hR hke hqr
      generalize wr.alloc (.cells (pcv p) 65) = w5 at HR H5 ⊢
      go_upto_region 10 with (first | (refine wpL_loadP (p := p) rfl _ rfl rfl H5.out.1.in ?_) | (go_at_call 47; refine HR.out.mono ?_; rintro e w6 ⟨rfl, hb6⟩; clear HR))
      have HB := hid_of' (bgo H5.out.2 hb6)
      clear hb6
      have LV : w6.cell? ⟨1, 0, none⟩ = some (.iface 155 (.pointer (some (ad 5)))) := (H.out.2.1.below HB.out).var 5 (by decide)
      have HN := hid_of' (newF (ad := ad) bBag bLoad (k : Int) 5 w6)
      go_wp2_with (go_at_call 15; refine HN.out.mono ?_; rintro r w7 ⟨rfl, hf, hb7⟩)
      go_ret2
      rw [HK.out] at hf
      exact ⟨_, rfl, ⟨_, rfl, HB.out.size, by decide, hf⟩, bgo HB.out hb7⟩
/-- A Bag that was loaded. -/
def ldG (m : Int) (l : List Pl) : Bg := ⟨m, maxS l, 0, 0, 0, 0, l⟩
set_option maxHeartbeats 4000000 in
theorem load_ok {w : World} {v : Value} {l : List Pl} (h : SlQ w v l) (m : Int) (h0 : 0 ≤ m) (h1 : m ≤ 4096) (hl : (l.length : Int) ≤ m) (hto : RightTo l l.length) :
    Calls Tryd.prog 12 #[.int .i64 m, v] w fun e w' => ∃ B v', e = .returned (.tuple #[.pointer (some ⟨B, 0, none⟩), .nilIface]) ∧ w.heap.size ≤ B ∧ BgAt B v' (ldG m l) (fun k => w.heap.size ≤ k) w' ∧ (∀ k, v'.ownBlock = some k → w.heap.size ≤ k) ∧ Below w.heap.size w w' := by
  obtain ⟨a, c, rfl⟩ := h.form
  have HM := hid_of' (isMost_yes m h0 h1 w)
  have H := hid_of' (And.intro h (And.intro hto (And.intro h0 (And.intro h1 hl))))
  have hnl : ¬ m < (l.length : Int) := by omega
  have hl4 : l.length ≤ 4096 := by omega
  clear h hto h0 h1 hl
  go_enter Tryd.func12, Tryd.ntmps12
  go_wp2_with (go_at_call 14; refine HM.out.mono ?_; rintro e w1 ⟨rfl, h0⟩; obtain rfl := h0.symm)
  go_loopw [6, 25] (fun lv kv wr => ∃ k : Nat, lv = .int .i64 (maxS (l.take k)) ∧ kv = .int .i64 (k : Int) ∧ k ≤ l.length ∧ Below w.heap.size w wr) (fun _ kv _ => l.length - (intOf kv).toNat)
  case atStart => exact ⟨0, by simp [maxS], rfl, by omega, Below.refl _ _⟩
  case round =>
    rename_i wr
    obtain ⟨k, rfl, rfl, hk, hB⟩ := hrel
    by_cases hkl : k < l.length
    · have hki : (k : Int) < (l.length : Int) := by omega
      obtain ⟨r, hr⟩ : ∃ r, l[k]? = some r := ⟨_, List.getElem?_eq_getElem (by omega)⟩
      obtain ⟨g, o_, p, rfl, hpr, _, hin⟩ := H.out.1.at hr
      have HX := hid_of' (And.intro (hin.later hB) (And.intro (hpr.later hB) (And.intro hB hr)))
      have HP1 : p.b.oneCell' = true := hpr.b.one
      have HPS := hid_of' hpr.s
      clear hin hpr hB hr
      obtain ⟨Z, hZ⟩ : ∃ Z, maxS (l.take k) = Z := ⟨_, rfl⟩
      rw [hZ]
      have HZ := hid_of' hZ
      clear hZ
      go_upto_region 9 with (first | (refine wpL_loadP (p := p) rfl _ rfl rfl HX.out.1 ?_) | (refine wpL_stNewP (p := p) rfl _ _ rfl rfl rfl rfl rfl rfl HP1 ?_; go_simp))
      have r5 := row_new wr (pcv p) 65
      have hb5 := below_one wr (.cells (pcv p) 65)
      have hR := isRight_is (HX.out.2.1.later hb5)
      have H5 := hid_of' (And.intro r5 (bgo HX.out.2.2.1 hb5))
      clear r5 hb5
      rw [H.out.2.1 k r hkl HX.out.2.2.2] at hR
      have HR := hid_of' hR
      clear hR
      generalize wr.alloc (.cells (pcv p) 65) = w5 at HR H5 ⊢
      go_upto_region 11 with (first | (refine wpL_loadP (p := p) rfl _ rfl rfl H5.out.1.in ?_) | (go_at_call 47; refine HR.out.mono ?_; rintro e w6 ⟨rfl, hb6⟩; clear HR))
      have c0 : w6.cell? ⟨wr.heap.size, 0, none⟩ = some (.int .i64 p.s) := (H5.out.1.later hb6).cellIs 0 rfl
      have HB := hid_of' (bgo H5.out.2 hb6)
      clear hb6
      go_wp2
      go_roundw
      case rel => exact ⟨k + 1, by rw [take_one HX.out.2.2.2, maxS_app, HZ.out, HPS.out]; first | done | (congr 1; split <;> omega), by go_num, by omega, HB.out⟩
      case measure => simp [intOf]; omega
    · have hki : ¬ (k : Int) < (l.length : Int) := by omega
      have hkk : k = l.length := by omega
      have hm : maxS (l.take k) = maxS l := by rw [hkk, List.take_length]
      rw [hm]
      have HA := hid_of' (allOwn_any (H.out.1.later hB) hl4)
      have HB := hid_of' hB
      clear hB hkk hm
      go_upto_region 13 with fail
      go_wp2_with (go_at_call 48; refine HA.out.mono ?_; rintro e w3 ⟨u, rfl, h1, h2, h3⟩; clear HA; have HU := hid_of' (And.intro h1 (And.intro h2 h3)); clear h1 h2 h3; obtain ⟨ua, uc, rfl, _, _⟩ := HU.out.1.form)
      go_ret2
      have hs := HB.out.size
      have hs3 := HU.out.2.2.size
      refine ⟨w3.heap.size, _, rfl, by omega, ⟨row_new w3 _ _, (HU.out.1.later (below_one _ _)).mono (fun k hk _ => by omega), H.out.2.2.1, H.out.2.2.2.1, H.out.2.2.2.2⟩, fun k' hk' => by have := HU.out.2.1 k' hk'; omega, ?_⟩
      exact (bgo (bgo HB.out HU.out.2.2) (below_one _ _))
end Go.Proofs.YtdojjhhnciaegaaDoor
namespace Go.Proofs.YtdojjhhnciaegaaDoor
open Go.RowKit Go.Extern.Stop Go.Stop Go.Extern
set_option maxRecDepth 100000

/-- The document's refusal. -/
theorem say_is (c : ByteArray) (i : Int) (k : Nat) (w : World) :
    Calls Tryd.prog 16 #[.string bBag, .string c, .int .i64 i, .int .i64 ((k : Int) + 1)] w fun e w' => ∃ v, e = .returned v ∧ NoR w.heap.size (some (c, i, k)) v w' ∧ Below w.heap.size w w' :=
  (say_any bBag c i ((k : Int) + 1) w (by rw [beq_eq_false_iff_ne]; omega)).mono fun _ _ ⟨g, g', h1, h2, h3, h4, h5, h6⟩ => ⟨_, h1, ⟨g, g', rfl, h3, h2, h4, h5⟩, h6⟩
end Go.Proofs.YtdojjhhnciaegaaDoor
