
/-
  PacketOne: what Read takes is right, and is written by just the bytes that were read.
-/
import Derived.Test.YtildmcmjpmidgaaDoorPkL
namespace Go.Proofs.YtildmcmjpmidgaaDoor
open Go.RowKit
set_option maxRecDepth 100000

/-- The first bytes of a slice as a text. -/
theorem conv_sl {w : World} {a : Option Addr} {c pl : Nat} {bs : List UInt8} (h : SlB w (.slice a bs.length c) bs) (hp : pl ≤ bs.length) : (convert 32 9 (.slice a pl c)).run Tryd.prog w = .ok (.string ⟨(bs.take pl).toArray⟩) w := by
  rcases h with ⟨rfl, _⟩ | ⟨g, o, c', he, hg, hc⟩
  · obtain rfl : pl = 0 := by simpa using hp
    rw [run_convert_bytes_string w 32 9 5 a 0 c Tryd.underlying32 Tryd.underlying5 Tryd.underlying9]
    cases a <;> rfl
  · simp only [Value.slice.injEq, true_and] at he
    obtain ⟨rfl, rfl⟩ := he
    have hl : (bs.take pl).length = pl := by simp; omega
    have := run_convert_bytes_back (P := Tryd.prog) w 32 9 5 ⟨g, o, none⟩ c (bs.take pl) Tryd.underlying32 Tryd.underlying5 Tryd.underlying9 (fun j hj => by
      rw [Addr.add_lit]
      refine hc j _ ?_
      rw [List.getElem_take]
      exact List.getElem?_eq_getElem _)
    rw [hl] at this
    exact this
theorem SlB.form {w : World} {v : Value} {bs : List UInt8} (h : SlB w v bs) : ∃ a c, v = .slice a bs.length c := by
  rcases h with ⟨rfl, a, c, rfl⟩ | ⟨g, o, c, rfl, _⟩
  · exact ⟨a, c, rfl⟩
  · exact ⟨_, c, rfl⟩
theorem conv_all {w : World} {a : Option Addr} {c : Nat} {bs : List UInt8} (h : SlB w (.slice a bs.length c) bs) : (convert 32 9 (.slice a bs.length c)).run Tryd.prog w = .ok (.string ⟨bs.toArray⟩) w := by
  have := conv_sl h (Nat.le_refl _)
  rwa [List.take_length] at this
theorem kindB_ok {m : Pms} (h : okMsg m) : kindB (fMsg m) = m.1 := by
  have hk := h.1
  have e : ((UInt8.ofNat m.1.toNat).toNat : Int) = m.1 := by
    rw [UInt8.toNat_ofNat']
    omega
  show (if oneB ((UInt8.ofNat m.1.toNat).toNat : Int) 4 then ((UInt8.ofNat m.1.toNat).toNat : Int) else 0) = m.1
  rw [e, if_pos (by unfold oneB; simp; exact hk)]

set_option maxHeartbeats 4000000 in
theorem packetOne_all {ad : Nat → Addr} {w : World} (L : Lw ad w) (v : Value) (bs0 : List UInt8) (h0 : SlB w v bs0) (hc0 : ∀ a n c, v = .slice a n c → n ≤ c) :
    Calls Tryd.prog 4 #[v] w fun e w' => e = .returned (.bool true) ∧ Below w.heap.size w w' := by
  have hz : (Tryd.prog.info? 30).bind (·.zero) = some (.agg (mv zeroM (.slice none 0 0))) := zero_ms
  have HC := hid_of' (clip9_cap h0 hc0)
  clear h0 hc0
  have hl0 : (bs0.take 3000).length ≤ 3000 := by simp; omega
  generalize bs0.take 3000 = bs at *
  have HL := hid_of' hl0
  clear hl0
  have hB := Below.refl w.heap.size w
  go_enter Tryd.func4, Tryd.ntmps4
  go_upto_region 2 with (go_at_call 13; (with_reducible refine HC.out.mono ?_); rintro e w0 ⟨u, rfl, hS, _, rfl⟩)
  obtain ⟨a, c, rfl⟩ := hS.form
  have HR := hid_of' (read_any L hS (Nat.le_trans HL.out (by decide)))
  cases hr : readM bs with
  | error x =>
    have HX := hid_of' hr
    clear hr
    go_upto_region 3 with (first | (go_at_call 11; (with_reducible refine HR.out.mono ?_); intro e w3 h3; obtain ⟨hb3, f, hf, rfl, hpe⟩ := h3.err HX.out) | (refine wpL_alloc rfl _ rfl hz ?_; go_simp) | (refine wpL_stNew rfl _ _ _ rfl rfl rfl rfl (mv_size (shM0 0 0 0)) (by rw [mv_sz (shM0 0 0 0), mv_sz zeroM_sh]) (mv_one _ rfl) ?_))
    have hb4 := bgo hb3 (below_one w3 (.cells (mv (0, 0, 0, zero8, [], zeroRs) (.slice none 0 0)) 30))
    have h2 := RowAt.new w3 (mv (0, 0, 0, zero8, [], zeroRs) (.slice none 0 0)) 30
    replace L := L.later hb4
    replace hB := bgo hB hb4
    clear hb4 hb3 hpe hS HR HC
    generalize w3.alloc (.cells (mv (0, 0, 0, zero8, [], zeroRs) (.slice none 0 0)) 30) = w4 at *
    have p2 := h2.in
    have hsm := shM0 0 0 0
    go_upto_region 4 with fail
    refine wp_region_cls0 ?_
    repeat (first | go_big_quiet_skip | (go_big_quiet_want; first | (refine quiet_ms hsm _ rfl rfl p2.cls ?_; simp only [Act.put, List.setIfInBounds_toArray, List.set_cons_succ, List.set_cons_zero]; go_big_quiet_on) | (refine quiet_zero rfl ?_; simp only [Act.put, List.setIfInBounds_toArray, List.set_cons_succ, List.set_cons_zero]; go_big_quiet_on) | (go_big_quiet_op; first | go_big_quiet_on | go_big_quiet_call ((first | (go_at_call 12; exact cls_of (messageK_is (a := (0, 0, 0, zero8, [], zeroRs)) (b := zeroM) (x := true) (beq_self_eq_true zeroM) _ _ _ hsm zeroM_sh (wk_sl _) (wk_sl _) (by decide))) | (go_at_call 10; exact cls_of (wakes9_ok (L.later (wOf_below _)))))))))
    refine wpQuiet_nil ?_
    rintro w1 ⟨s1, e1⟩
    have hb1 := wOf_below s1
    rw [← e1] at hb1
    clear e1 s1
    replace L := L.later hb1
    replace hB := bgo hB hb1
    clear hb1
    go_wp2
    go_ret
    exact ⟨rfl, hB⟩
  | ok m =>
    obtain ⟨hok, hf⟩ := readM_one hr
    have hfit := okMsg_fit hok (by have := okMsg_len hok; have := HL.out; rw [hf] at *; omega)
    have hR := (right_ok hfit (okMsg_bnd hok)).2 hok
    have hk : kindB bs = m.1 := by rw [← hf]; exact kindB_ok hok
    have HX := hid_of' (And.intro hr (And.intro hok hf))
    clear hr hok
    go_upto_region 5 with (first | (go_at_call 11; (with_reducible refine HR.out.mono ?_); intro e w3 h3; obtain ⟨hb3, sv, rfl, ho3, hs3⟩ := h3.ok HX.out.1; obtain ⟨sa, sc, rfl⟩ := ho3.form) | (refine wpL_alloc rfl _ rfl hz ?_; go_simp) | (refine wpL_stNew rfl _ _ _ rfl rfl rfl rfl (mv_size hs3) (by rw [mv_sz hs3, mv_sz zeroM_sh]) (mv_one _ rfl) ?_))
    have hA := ho3.sl hs3.2.1
    have hb4 := below_one w3 (.cells (mv m (.slice sa m.2.2.2.2.1.length sc)) 30)
    have h2 := RowAt.new w3 (mv m (.slice sa m.2.2.2.2.1.length sc)) 30
    replace hA := hA.later hb4
    replace hb4 := bgo hb3 hb4
    replace hS := hS.later hb4
    replace L := L.later hb4
    replace hB := bgo hB hb4
    clear ho3 HR HC hz hb3 hb4
    generalize w3.alloc (.cells (mv m (.slice sa m.2.2.2.2.1.length sc)) 30) = w4 at *
    generalize hsv : (Value.slice sa m.2.2.2.2.1.length sc) = sv at *
    clear hsv
    have HY0 := bytesP_ok m sv w4 hfit (okMsg_bnd HX.out.2.1) hA HX.out.2.1
    rw [hf] at HY0
    have HY := hid_of' HY0
    have h2i := h2.in
    clear HY0 hf
    go_upto_region 6 with (first | (refine ld_ms hs3 rfl _ rfl rfl h2i ?_) | (go_at_call 8; (with_reducible refine HY.out.mono ?_); rintro e w5 ⟨g, hg, rfl, hgb, hb5⟩))
    replace h2 := h2.later hb5
    replace hA := hA.later hb5
    replace hS := hS.later hb5
    replace L := L.later hb5
    replace hB := bgo hB hb5
    clear HY h2i hb5 hg
    have hc1 : ∀ s : Wld w5, (convert 32 9 (.slice (some ⟨g, 0, none⟩) bs.length bs.length)).run Tryd.prog (wOf s) = .ok (.string ⟨bs.toArray⟩) (wOf s) := fun s => conv_block (by rw [(wOf_below s).block g (Array.getElem?_eq_some_iff.1 hgb).1]; exact hgb) _
    have hc2 : ∀ s : Wld w5, (convert 32 9 (.slice a bs.length c)).run Tryd.prog (wOf s) = .ok (.string ⟨bs.toArray⟩) (wOf s) := fun s => conv_all (hS.later (wOf_below s))
    have HG := hid_of' hgb
    clear hgb
    have p2 := h2.in
    have d0 := h2.cls 0 _ (mv_k m sv)
    refine wp_region_cls (by kernel_rfl) (by kernel_rfl) ?_
    repeat (first | go_big_quiet_skip | (go_big_quiet_want; first | (refine quiet_ms hs3 _ rfl rfl p2.cls ?_; simp only [Act.put, List.setIfInBounds_toArray, List.set_cons_succ, List.set_cons_zero]; go_big_quiet_on) | (go_big_quiet_op; first | go_big_quiet_on | go_big_quiet_call ((first | (go_at_call 9; exact cls_of (right_is hR _ _ hfit (hA.later (wOf_below _)))) | (go_at_call 14; exact cls_of_same (kindP_is hk (hS.later (wOf_below _)))) | (go_at_call 10; exact cls_of (wakes9_ok (L.later (wOf_below _)))))))))
    refine wpQuiet_nil ?_
    rintro w1 ⟨s1, e1⟩
    have hb1 := wOf_below s1
    rw [← e1] at hb1
    clear e1 s1
    replace L := L.later hb1
    replace hB := bgo hB hb1
    clear hb1
    go_wp2
    go_ret
    exact ⟨rfl, hB⟩
end Go.Proofs.YtildmcmjpmidgaaDoor
