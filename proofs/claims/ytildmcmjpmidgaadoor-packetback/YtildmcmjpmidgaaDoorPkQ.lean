
/-
  PacketBack: what is written of a right message is read again as it; each beginning of its bytes, and the bytes with one more behind, are refused.
-/
import Derived.Test.YtildmcmjpmidgaaDoorPkT
namespace Go.Proofs.YtildmcmjpmidgaaDoor
open Go.RowKit
set_option maxRecDepth 100000

theorem fMsg_small {m : Pms} (h : okMsg m) (hn : m.2.2.2.2.1.length ≤ 60) : (fMsg m).length ≤ 20000 := by
  obtain ⟨h1, h2, h3, h4, h5, h6⟩ := h
  have g1 := fN_len (x := m.2.1) (by omega)
  have g2 := fN_len (x := m.2.2.1) (by unfold mx63 at h3; omega)
  have g3 : (if m.1 = 2 then fRow m.2.2.2.1 else []).length ≤ 81 := by
    split
    · rename_i hk; rw [if_pos hk] at h4; exact fRow_len (Int.le_refl _) h4
    · simp
  have g4 : (if m.1 = 1 ∨ m.1 = 3 then fActs m.2.2.2.2.1 else []).length ≤ 7089 := by
    split
    · rename_i hk
      rw [if_pos hk] at h5
      have e1 := flatG_len (f := fAct) (n := 118) m.2.2.2.2.1 (fun a ha => fAct_cap (h5.2 a ha))
      have e2 := form_len9 m.2.2.2.2.1.length (by omega)
      unfold fActs
      rw [List.length_append]
      omega
    · simp
  have g5 : (if m.1 = 3 ∨ m.1 = 4 then fRnds m.2.2.2.2.2 else []).length ≤ 1449 := by
    split
    · rename_i hk
      rw [if_pos hk] at h6
      have e0 := lenG_le nzR m.2.2.2.2.2
      rw [h6.1] at e0
      have e1 := flatG_len (f := fRnd) (n := 180) (m.2.2.2.2.2.take (lenG nzR m.2.2.2.2.2)) (fun r hr => fRnd_len (h6.2 r (List.mem_of_mem_take hr)))
      rw [List.length_take] at e1
      have e2 := form_len9 (lenG nzR m.2.2.2.2.2) (by omega)
      unfold fRnds fRowG
      rw [List.length_append]
      omega
    · simp
  unfold fMsg fBody
  simp only [List.length_append, List.length_cons]
  omega

theorem SlB.take {w : World} {a : Option Addr} {c : Nat} {l : List UInt8} (h : SlB w (.slice a l.length c) l) {k : Nat} (hk : k ≤ l.length) : SlB w (.slice a k c) (l.take k) := by
  have hl : (l.take k).length = k := by simp; omega
  rcases h with ⟨rfl, _⟩ | ⟨g, o, c', he, hg, hA⟩
  · obtain rfl : k = 0 := by simpa using hk
    exact .inl ⟨by simp, _, _, rfl⟩
  · simp only [Value.slice.injEq, true_and] at he
    obtain ⟨rfl, rfl⟩ := he
    refine .inr ⟨g, o, c, by rw [hl], hg, fun i x hx => hA i x ?_⟩
    rw [List.getElem?_take] at hx
    split at hx
    · exact hx
    · cases hx
theorem SlB.takeN {w : World} {a : Option Addr} {c n : Nat} {l : List UInt8} (h : SlB w (.slice a n c) l) (hn : l.length = n) {k : Nat} (hk : k ≤ n) : SlB w (.slice a k c) (l.take k) := by
  subst hn; exact h.take hk
/-- Bytes of one's own. -/
abbrev OwnB (base : Nat) (v : Value) (bs : List UInt8) (w : World) : Prop := w.ownsRow base 5 1 v bs.length (Lib.byteCells bs)
theorem ownB_empty (w : World) : OwnB w.heap.size (.slice (some ⟨w.heap.size, 0, none⟩) 0 0) [] (w.alloc (.cells #[] 5)) :=
  ⟨rfl, .inr ⟨w.heap.size, 0, #[], rfl, Nat.le_refl _, heap_alloc_last w _ _, Nat.le_refl _, Nat.zero_le _, rfl, rfl⟩⟩
theorem ownB_lt {base : Nat} {v : Value} {l : List UInt8} {w : World} (h : OwnB base v l w) : ∀ k, v.ownBlock = some k → base ≤ k ∧ k < w.heap.size := fun k hk => World.ownsRow.lt h k hk
theorem ownB_sl {base : Nat} {v : Value} {l : List UInt8} {w : World} (h : OwnB base v l w) : SlB w v l := by
  rcases h.2 with ⟨rfl, h0⟩ | ⟨g, cap, cur, rfl, _, hg, _, _, _, ht⟩
  · exact .inl ⟨List.eq_nil_of_length_eq_zero h0, _, _, rfl⟩
  · refine .inr ⟨g, 0, cap, rfl, lt_of_heap hg, fun i b hi => ?_⟩
    have hx : (Lib.byteCells l)[i]? = some (.int .u8 b.toNat) := by rw [byteCells_at, hi]; rfl
    rw [Nat.zero_add, cellW_of hg]
    rw [← ht, List.getElem?_take] at hx
    split at hx
    · simpa using hx
    · cases hx
theorem SlB.form3 {w : World} {v : Value} {l : List UInt8} (h : SlB w v l) : ∃ a n c, v = .slice a n c ∧ SlB w (.slice a n c) l := by
  obtain ⟨a, c, rfl⟩ := h.form
  exact ⟨_, _, _, rfl, h⟩
theorem SlB.news {w : World} {ad : Addr} {n c : Nat} {bs : List UInt8} (h : SlB w (.slice (some ad) n c) bs) : ∀ j u, (Lib.byteCells bs)[j]? = some u → w.cell? (ad.add j) = some u := by
  intro j u hj
  rw [byteCells_at] at hj
  obtain ⟨b, hb, rfl⟩ := Option.map_eq_some_iff.1 hj
  rcases h with ⟨rfl, _⟩ | ⟨g, o, c', he, hg, hc⟩
  · simp at hb
  · simp only [Value.slice.injEq, Option.some.injEq] at he
    obtain ⟨rfl, _, _⟩ := he
    rw [Addr.add_lit]
    exact hc j b hb
theorem one_new (w : World) : ∀ j u, (Lib.byteCells [0])[j]? = some u → (w.alloc (.cells #[.int .u8 0] 5)).cell? (Addr.add ⟨w.heap.size, 0, none⟩ j) = some u := cell_one_new _ _ _
theorem wpL_appB {ops : Array Oper} {rest : List Oper} {o : Oper} {A : Act} {w : World} {Q : Exit → Act → World → Prop} (hgd : o.guard = none) (s x : Operand) (ho : o.op = .call { callee := .builtin .append, args := #[s, x], argTypes := #[32, 32] })
    {base m c : Nat} {ad : Addr} {v : Value} {xs l zs : List UInt8} (hs : A.eval s = v) (hx : A.eval x = .slice (some ad) m c) (hm : l.length = m) (hz : xs ++ l = zs) (hown : OwnB base v xs w) (hnews : ∀ j u, (Lib.byteCells l)[j]? = some u → w.cell? (ad.add j) = some u) (hlen : zs.length ≤ 1000000) (hbase : base ≤ w.heap.size)
    (k : ∀ v' w', OwnB base v' zs w' → w.grownBy w' v.ownBlock → wpList Tryd.prog ops Q rest (A.put o.dst v') w') : wpList Tryd.prog ops Q (o :: rest) A w := by
  subst hm hz
  obtain ⟨i0, hi, hz0, hz1, hz2⟩ := info_parts info_u8
  rw [List.length_append] at hlen
  refine wpList_append_own w hgd s x 32 ho base 5 i0 (.int .u8 0) 1 1 Tryd.underlying32 hi hz0 hz1 hz2 rfl (by decide) v xs.length (Lib.byteCells xs) hs hown ad l.length c (Lib.byteCells l) hx (by rw [Lib.byteCells_length]; omega) hnews (byteCells_one l) (by unfold maxLen; omega) (by omega) hbase (fun v' w' h1 h2 _ => k v' w' ?_ h2)
  have e : Lib.byteCells (xs ++ l) = Lib.byteCells xs ++ Lib.byteCells l := by simp [Lib.byteCells]
  show w'.ownsRow base 5 1 v' (xs ++ l).length (Lib.byteCells (xs ++ l))
  rw [e, List.length_append]
  exact h1
/-- What the bytes of a right message are read as. -/
structure BackL (bs : List UInt8) (M : Pms) : Prop where
  all : readM bs = .ok M
  cut : ∀ k, k < bs.length → ∃ e, readM (bs.take k) = .error e
  more : ∃ e, readM (bs ++ [0]) = .error e
  len : bs.length ≤ 20000
theorem backL {M : Pms} (h : okMsg M) (hl : M.2.2.2.2.1.length ≤ 60) : BackL (fMsg M) M := ⟨readM_back h, fun _ hk => readM_cut h hk, readM_more h 0, fMsg_small h hl⟩
theorem cutM_len (m : Pms) : (cutM m).2.2.2.2.1.length ≤ 60 := by simp only [cutM, List.length_take]; omega

set_option maxHeartbeats 4000000 in
theorem packetBack_all {ad : Nat → Addr} {w : World} (L : Lw ad w) (m : Pms) (s : Value) (hs : shM m) (hf : ∀ a ∈ m.2.2.2.2.1, fitA a) (hb : bndM m) (hA : SlA w s m.2.2.2.2.1) (hc : ∀ a n c, s = .slice a n c → n ≤ c) :
    Calls Tryd.prog 3 #[.agg (mv m s)] w fun e w' => e = .returned (.bool true) ∧ Below w.heap.size w w' := by
  have hz : (Tryd.prog.info? 30).bind (·.zero) = some (.agg (mv zeroM (.slice none 0 0))) := zero_ms
  have hB0 := below_one w (.cells (mv m s) 30)
  have h1 := RowAt.new w (mv m s) 30
  have h1i := h1.in
  have HC := hid_of' (cut9_any m s _ hs (hA.later hB0) hc)
  have hM := cutM_fit hs hf
  have bM := cutM_bnd hb
  have HA := hid_of' hA
  clear hA hc hf hb
  obtain ⟨a, c, rfl⟩ := HA.out.form
  go_enter Tryd.func3, Tryd.ntmps3
  go_upto_region 2 with (first | (refine ld_ms hs rfl _ rfl rfl h1i ?_) | (go_at_call 7; (with_reducible refine HC.out.mono ?_); rintro e w1 ⟨s', rfl, hcut, hb1⟩; have h1' := h1.later hb1; have hA1 := hcut w HA.out; obtain ⟨sa, sc, rfl⟩ := hA1.form) | (refine wpList_store_row rfl _ _ _ rfl _ _ rfl rfl _ _ h1' (mv_size hM.sh) (by rw [mv_sz hs, mv_sz hM.sh]) (mv_one _ rfl) ?_))
  have h2 : RowAt w.heap.size (mv (cutM m) (.slice sa (cutM m).2.2.2.2.1.length sc)) 30 _ := setRow_heap _ _ _ _ _ _ h1'
  have hB := below_setRow (bgo hB0 hb1) (Nat.le_refl _) (mv (cutM m) (.slice sa (cutM m).2.2.2.2.1.length sc))
  have hlM := cutM_len m
  clear hcut h1' hb1 h1 h1i hB0 HC HA hs
  generalize w1.setRow w.heap.size (mv (cutM m) (.slice sa (cutM m).2.2.2.2.1.length sc)) = w2 at *
  generalize hsv : (Value.slice sa (cutM m).2.2.2.2.1.length sc) = sv at *
  clear hsv
  generalize cutM m = M at *
  replace hA1 := hA1.later hB
  replace L := L.later hB
  have h2i := h2.in
  cases hr : rightB M
  · have HY := hid_of' (bytesP_no M sv w2 L hM hA1 hr)
    go_upto_region 3 with (first | (refine ld_ms hM.sh rfl _ rfl rfl h2i ?_) | (go_at_call 8; (with_reducible refine HY.out.mono ?_); rintro e w3 ⟨f, _, rfl, _, hb3⟩))
    replace h2 := h2.later hb3
    replace hA1 := hA1.later hb3
    replace L := L.later hb3
    replace hB := bgo hB hb3
    have h3i := h2.in
    have HR := hid_of' (right_is hr sv w3 hM hA1)
    clear hb3 HY h2i
    go_upto_region 4 with (first | (refine ld_ms hM.sh rfl _ rfl rfl h3i ?_) | (go_at_call 9; (with_reducible refine HR.out.mono ?_); rintro e w4 ⟨rfl, hb4⟩))
    replace L := L.later hb4
    replace hB := bgo hB hb4
    clear hb4 HR h3i hA1 h2
    refine wp_region_cls0 ?_
    repeat (first | go_big_quiet_skip | (go_big_quiet_want; first | (go_big_quiet_op; first | go_big_quiet_on | go_big_quiet_call ((go_at_call 10; exact cls_of (wakes9_ok (L.later (wOf_below _))))))))
    refine wpQuiet_nil ?_
    rintro w1 ⟨s1, e1⟩
    have hb1 := wOf_below s1
    rw [← e1] at hb1
    clear e1 s1
    replace L := L.later hb1
    replace hB := bgo hB hb1
    clear hb1
    go_wp2
    go_ret
    exact ⟨rfl, hB⟩
  · have hok := (right_ok hM bM).1 hr
    have HY0 := bytesP_ok M sv w2 hM bM hA1 hok
    have BL := backL hok hlM
    generalize fMsg M = bs at *
    have HY := hid_of' HY0
    clear HY0 hok
    go_upto_region 3 with (first | (refine ld_ms hM.sh rfl _ rfl rfl h2i ?_) | (go_at_call 8; (with_reducible refine HY.out.mono ?_); rintro e w3 ⟨g, _, rfl, hgb, hb3⟩))
    replace h2 := h2.later hb3
    replace hA1 := hA1.later hb3
    replace L := L.later hb3
    replace hB := bgo hB hb3
    have h3i := h2.in
    have HR := hid_of' (right_is hr sv w3 hM hA1)
    have hS := slB_block hgb
    have HBL := hid_of' BL
    clear hb3 HY h2i hgb BL
    go_upto_region 5 with (first | (refine ld_ms hM.sh rfl _ rfl rfl h3i ?_) | (go_at_call 9; (with_reducible refine HR.out.mono ?_); rintro e w4 ⟨rfl, hb4⟩))
    replace h2 := h2.later hb4
    replace hA1 := hA1.later hb4
    replace L := L.later hb4
    replace hS := hS.later hb4
    replace hB := bgo hB hb4
    clear hb4 HR h3i
    have HRd := hid_of' (read_any L hS (Nat.le_trans HBL.out.len (by decide)))
    go_upto_region 6 with (first | (go_at_call 11; (with_reducible refine HRd.out.mono ?_); intro e w5 h5; obtain ⟨hb5, sx, rfl, ho5, hs5⟩ := h5.ok HBL.out.all; obtain ⟨xa, xc, rfl⟩ := ho5.form) | (refine wpL_alloc rfl _ rfl hz ?_; go_simp) | (refine wpL_stNew rfl _ _ _ rfl rfl rfl rfl (mv_size hs5) (by rw [mv_sz hs5, mv_sz zeroM_sh]) (mv_one _ rfl) ?_))
    have hX := ho5.sl hs5.2.1
    have hb6 := below_one w5 (.cells (mv M (.slice xa M.2.2.2.2.1.length xc)) 30)
    have h6 := RowAt.new w5 (mv M (.slice xa M.2.2.2.2.1.length xc)) 30
    replace hX := hX.later hb6
    replace hb6 := bgo hb5 hb6
    replace h2 := h2.later hb6
    replace hA1 := hA1.later hb6
    replace L := L.later hb6
    replace hS := hS.later hb6
    replace hB := bgo hB hb6
    clear ho5 hb5 hb6 HRd
    generalize w5.alloc (.cells (mv M (.slice xa M.2.2.2.2.1.length xc)) 30) = w6 at *
    generalize hsv : (Value.slice xa M.2.2.2.2.1.length xc) = xv at *
    clear hsv
    have p1 := h2.in
    have p2 := h6.in
    refine wp_region_cls0 ?_
    repeat (first | go_big_quiet_skip | (go_big_quiet_want; first | (refine quiet_ms hM.sh _ rfl rfl p1.cls ?_; simp only [Act.put, List.setIfInBounds_toArray, List.set_cons_succ, List.set_cons_zero]; go_big_quiet_on) | (refine quiet_ms hs5 _ rfl rfl p2.cls ?_; simp only [Act.put, List.setIfInBounds_toArray, List.set_cons_succ, List.set_cons_zero]; go_big_quiet_on) | (go_big_quiet_op; first | go_big_quiet_on | go_big_quiet_call ((go_at_call 12; exact cls_of (messageK_is (a := M) (b := M) (x := true) (beq_self_eq_true _) _ _ _ hs5 hM.sh (hX.later (wOf_below _)) (hA1.later (wOf_below _)) hM.len))))))
    refine wpQuiet_nil ?_
    rintro w1 ⟨s1, e1⟩
    have hb1 := wOf_below s1
    rw [← e1] at hb1
    clear e1 s1
    replace L := L.later hb1
    replace hS := hS.later hb1
    replace hB := bgo hB hb1
    clear hb1
    clear p1 p2 h2 h6 hA1 hX hs5
    have hn : bs.length ≤ 20000 := HBL.out.len
    generalize hlen : bs.length = n at *
    have HN := hid_of' hlen
    clear hlen
    go_wp2
    go_loopw [7, 8, 9] (fun i _ _ wr => ∃ k : Nat, i = .int .i64 (k : Int) ∧ k ≤ n ∧ Lw ad wr ∧ SlB wr (.slice (some ⟨g, 0, none⟩) n n) bs ∧ Below w.heap.size w wr) (fun i _ _ _ => n - (intOf i).toNat)
    case atStart => exact ⟨0, rfl, by omega, L, hS, hB⟩
    case round =>
      clear L hS hB
      obtain ⟨k, rfl, hk, L, hS, hB⟩ := hrel
      by_cases hkn : k < n
      · have hki : (k : Int) < (n : Int) := by omega
        by_cases hk4 : (k : Int) < 400
        · skip
          go_upto_region 9 with fail
          refine wp_region_cls0 ?_
          repeat (first | go_big_quiet_skip | (go_big_quiet_want; first | (go_big_quiet_op; first | go_big_quiet_on | go_big_quiet_call ((fail)))))
          refine wpQuiet_nil ?_
          rintro w1 ⟨s1, e1⟩
          have hb1 := wOf_below s1
          rw [← e1] at hb1
          clear e1 s1
          replace L := L.later hb1
          replace hS := hS.later hb1
          replace hB := bgo hB hb1
          clear hb1
          obtain ⟨x, hx⟩ := HBL.out.cut k (by rw [HN.out]; exact hkn)
          have HXk := hid_of' hx
          have HRd := hid_of' (read_any L (hS.takeN HN.out (k := k) (by omega)) (by simp only [List.length_take]; omega))
          have hkc : (k : Int) ≤ (n : Int) := by omega
          have hn0 : ¬ n = 0 := by omega
          clear hx
          go_upto_region 12 with (first | (go_at_call 11; (with_reducible refine HRd.out.mono ?_); intro e w5 h5; obtain ⟨hb5, f, _, rfl, _⟩ := h5.err HXk.out) | (refine wpL_alloc rfl _ rfl hz ?_; go_simp) | (refine wpL_stNew rfl _ _ _ rfl rfl rfl rfl (mv_size (shM0 0 0 0)) (by rw [mv_sz (shM0 0 0 0), mv_sz zeroM_sh]) (mv_one _ rfl) ?_))
          have hb6 := bgo hb5 (below_one w5 (.cells (mv (0, 0, 0, zero8, [], zeroRs) (.slice none 0 0)) 30))
          have h6 := RowAt.new w5 (mv (0, 0, 0, zero8, [], zeroRs) (.slice none 0 0)) 30
          replace L := L.later hb6
          replace hS := hS.later hb6
          replace hB := bgo hB hb6
          clear hb5 hb6 HRd
          generalize w5.alloc (.cells (mv (0, 0, 0, zero8, [], zeroRs) (.slice none 0 0)) 30) = w6 at *
          have p2 := h6.in
          have hsm := shM0 0 0 0
          refine wp_region_cls0 ?_
          repeat (first | go_big_quiet_skip | (go_big_quiet_want; first | (refine quiet_ms hsm _ rfl rfl p2.cls ?_; simp only [Act.put, List.setIfInBounds_toArray, List.set_cons_succ, List.set_cons_zero]; go_big_quiet_on) | (refine quiet_zero rfl ?_; simp only [Act.put, List.setIfInBounds_toArray, List.set_cons_succ, List.set_cons_zero]; go_big_quiet_on) | (go_big_quiet_op; first | go_big_quiet_on | go_big_quiet_call ((go_at_call 12; exact cls_of (messageK_is (a := (0, 0, 0, zero8, [], zeroRs)) (b := zeroM) (x := true) (beq_self_eq_true zeroM) _ _ _ hsm zeroM_sh (wk_sl _) (wk_sl _) (by decide)))))))
          refine wpQuiet_nil ?_
          rintro w1 ⟨s1, e1⟩
          have hb1 := wOf_below s1
          rw [← e1] at hb1
          clear e1 s1
          replace L := L.later hb1
          replace hS := hS.later hb1
          replace hB := bgo hB hb1
          clear hb1
          go_wp2
          go_roundw
          case rel => exact ⟨k + 1, by go_num, by omega, L, hS, hB⟩
          case measure => simp [intOf]; omega
        · skip
          go_upto_region 9 with fail
          refine wp_region_cls0 ?_
          repeat (first | go_big_quiet_skip | (go_big_quiet_want; first | (go_big_quiet_op; first | go_big_quiet_on | go_big_quiet_call ((fail)))))
          refine wpQuiet_nil ?_
          rintro w1 ⟨s1, e1⟩
          have hb1 := wOf_below s1
          rw [← e1] at hb1
          clear e1 s1
          replace L := L.later hb1
          replace hS := hS.later hb1
          replace hB := bgo hB hb1
          clear hb1
          have O1 := ownB_empty w1
          have N1 := (hS.later (below_one w1 (.cells #[] 5))).news
          obtain ⟨x, hx⟩ := HBL.out.more
          have HXm := hid_of' hx
          have HL := hid_of' (And.intro L hB)
          have hlz : (bs ++ [0]).length ≤ 1000000 := by rw [List.length_append, HN.out]; simp; omega
          have HLZ := hid_of' hlz
          clear hx hlz hS L hB
          go_upto_region 15 with (first | (at_builtin; refine wpL_appB (xs := []) (zs := bs) rfl _ _ rfl rfl rfl HN.out (List.nil_append _) O1 N1 (by rw [HN.out]; omega) (by simp) ?_; intro v1 w2 o1 hg1; have o1' := o1.alloc (.cells #[.int .u8 0] 5); have b1 : Below w1.heap.size w1 w2 := ((Below.refl _ w1).alloc (Nat.le_refl _) _).grown hg1 (by simp) (fun k hk => (ownB_lt O1 k hk).1)) | (at_builtin; refine wpL_appB (xs := bs) (l := [0]) (zs := bs ++ [0]) (m := 1) (c := 1) rfl _ _ rfl rfl rfl rfl rfl o1' (one_new w2) HLZ.out (by have := b1.size; simp; omega) ?_; intro v2 w3 o2 hg2; have b2 : Below w1.heap.size w1 w3 := (b1.alloc (by have := b1.size; omega) _).grown hg2 (by have := b1.size; simp; omega) (fun k hk => (ownB_lt o1' k hk).1); obtain ⟨va, vn, vc, rfl, hvs⟩ := (ownB_sl o2).form3) | (go_at_call 11; have hh := read_any (HL.out.1.later b2) hvs HLZ.out; (with_reducible refine hh.mono ?_); clear hh; intro e w5 h5; obtain ⟨hb5, f, _, rfl, _⟩ := h5.err HXm.out) | (refine wpL_alloc rfl _ rfl hz ?_; go_simp) | (refine wpL_stNew rfl _ _ _ rfl rfl rfl rfl (mv_size (shM0 0 0 0)) (by rw [mv_sz (shM0 0 0 0), mv_sz zeroM_sh]) (mv_one _ rfl) ?_))
          have hb6 := bgo (bgo b2 hb5) (below_one w5 (.cells (mv (0, 0, 0, zero8, [], zeroRs) (.slice none 0 0)) 30))
          have L := HL.out.1.later hb6
          have hB := bgo HL.out.2 hb6
          clear hb5 hb6 b1 b2 o1 o1' o2 hg1 hg2 O1 N1 HL hvs
          generalize w5.alloc (.cells (mv (0, 0, 0, zero8, [], zeroRs) (.slice none 0 0)) 30) = w6 at *
          refine wp_region_cls0 ?_
          repeat (first | go_big_quiet_skip | (go_big_quiet_want; first | (go_big_quiet_op; first | go_big_quiet_on | go_big_quiet_call ((go_at_call 10; exact cls_of (wakes9_ok (L.later (wOf_below _))))))))
          refine wpQuiet_nil ?_
          rintro w1 ⟨s1, e1⟩
          have hb1 := wOf_below s1
          rw [← e1] at hb1
          clear e1 s1
          replace L := L.later hb1
          replace hB := bgo hB hb1
          clear hb1
          go_wp2
          go_ret
          exact ⟨rfl, hB⟩
      · have hki : ¬ (k : Int) < (n : Int) := by omega
        go_upto_region 9 with fail
        refine wp_region_cls0 ?_
        repeat (first | go_big_quiet_skip | (go_big_quiet_want; first | (go_big_quiet_op; first | go_big_quiet_on | go_big_quiet_call ((fail)))))
        refine wpQuiet_nil ?_
        rintro w1 ⟨s1, e1⟩
        have hb1 := wOf_below s1
        rw [← e1] at hb1
        clear e1 s1
        replace L := L.later hb1
        replace hS := hS.later hb1
        replace hB := bgo hB hb1
        clear hb1
        have O1 := ownB_empty w1
        have N1 := (hS.later (below_one w1 (.cells #[] 5))).news
        obtain ⟨x, hx⟩ := HBL.out.more
        have HXm := hid_of' hx
        have HL := hid_of' (And.intro L hB)
        have hlz : (bs ++ [0]).length ≤ 1000000 := by rw [List.length_append, HN.out]; simp; omega
        have HLZ := hid_of' hlz
        clear hx hlz hS L hB
        go_upto_region 15 with (first | (at_builtin; refine wpL_appB (xs := []) (zs := bs) rfl _ _ rfl rfl rfl HN.out (List.nil_append _) O1 N1 (by rw [HN.out]; omega) (by simp) ?_; intro v1 w2 o1 hg1; have o1' := o1.alloc (.cells #[.int .u8 0] 5); have b1 : Below w1.heap.size w1 w2 := ((Below.refl _ w1).alloc (Nat.le_refl _) _).grown hg1 (by simp) (fun k hk => (ownB_lt O1 k hk).1)) | (at_builtin; refine wpL_appB (xs := bs) (l := [0]) (zs := bs ++ [0]) (m := 1) (c := 1) rfl _ _ rfl rfl rfl rfl rfl o1' (one_new w2) HLZ.out (by have := b1.size; simp; omega) ?_; intro v2 w3 o2 hg2; have b2 : Below w1.heap.size w1 w3 := (b1.alloc (by have := b1.size; omega) _).grown hg2 (by have := b1.size; simp; omega) (fun k hk => (ownB_lt o1' k hk).1); obtain ⟨va, vn, vc, rfl, hvs⟩ := (ownB_sl o2).form3) | (go_at_call 11; have hh := read_any (HL.out.1.later b2) hvs HLZ.out; (with_reducible refine hh.mono ?_); clear hh; intro e w5 h5; obtain ⟨hb5, f, _, rfl, _⟩ := h5.err HXm.out) | (refine wpL_alloc rfl _ rfl hz ?_; go_simp) | (refine wpL_stNew rfl _ _ _ rfl rfl rfl rfl (mv_size (shM0 0 0 0)) (by rw [mv_sz (shM0 0 0 0), mv_sz zeroM_sh]) (mv_one _ rfl) ?_))
        have hb6 := bgo (bgo b2 hb5) (below_one w5 (.cells (mv (0, 0, 0, zero8, [], zeroRs) (.slice none 0 0)) 30))
        have L := HL.out.1.later hb6
        have hB := bgo HL.out.2 hb6
        clear hb5 hb6 b1 b2 o1 o1' o2 hg1 hg2 O1 N1 HL hvs
        generalize w5.alloc (.cells (mv (0, 0, 0, zero8, [], zeroRs) (.slice none 0 0)) 30) = w6 at *
        refine wp_region_cls0 ?_
        repeat (first | go_big_quiet_skip | (go_big_quiet_want; first | (go_big_quiet_op; first | go_big_quiet_on | go_big_quiet_call ((go_at_call 10; exact cls_of (wakes9_ok (L.later (wOf_below _))))))))
        refine wpQuiet_nil ?_
        rintro w1 ⟨s1, e1⟩
        have hb1 := wOf_below s1
        rw [← e1] at hb1
        clear e1 s1
        replace L := L.later hb1
        replace hB := bgo hB hb1
        clear hb1
        go_wp2
        go_ret
        exact ⟨rfl, hB⟩
end Go.Proofs.YtildmcmjpmidgaaDoor
