
/-
  Operations and rounds are written.
-/
import Derived.Test.YtildmcmjpmidgaaDoorPkWa
namespace Go.Proofs.YtildmcmjpmidgaaDoor
open Go.RowKit
set_option maxRecDepth 100000

theorem szWt (b : Nat) : (Tryd.prog.info? 49).map (·.size) = some (#[Value.pointer (some ⟨b, 0, none⟩)] : Array Value).size := (by kernel_rfl : (Tryd.prog.info? 49).map (·.size) = some 1)
theorem ld_wt {ops : Array Oper} {rest : List Oper} {o : Oper} {a : Act} {w : World} {Q : Exit → Act → World → Prop} {b : Nat} (hgd : o.guard = none) (y : Operand) (ho : o.op = .load 49 y) {k : Nat} (hy : a.eval y = .pointer (some ⟨k, 0, none⟩)) (h : RowAt k #[.pointer (some ⟨b, 0, none⟩)] 49 w) (hk : wpList Tryd.prog ops Q rest (a.put o.dst (.agg #[.pointer (some ⟨b, 0, none⟩)])) w) : wpList Tryd.prog ops Q (o :: rest) a w :=
  wpL_ld hgd _ y ho hy h.in Tryd.underlying49 rfl (szWt b) hk
theorem wrap_byte {x : Int} (h0 : 0 ≤ x) (h1 : x < 256) : IntKind.u8.wrap x = x := by rw [IntKind.wrap_u8']; omega

set_option maxHeartbeats 2000000 in
theorem op_wr {B b : Nat} {bs : List UInt8} {w : World} (h : ∃ v, WrAt B b bs v w) (o : Pop) (ho : okOp o) (hlen : bs.length + (fOp o).length ≤ capW) (hB : B ≤ w.heap.size) :
    Calls Tryd.prog 53 #[.agg #[.pointer (some ⟨b, 0, none⟩)], .agg (opv o)] w fun e w' => e = .returned (.tuple #[]) ∧ Wrote B b (bs ++ fOp o) w w' := by
  obtain ⟨k, r, a, c⟩ := o
  obtain ⟨h1, h2, hB0⟩ := two_boxes w #[.pointer (some ⟨b, 0, none⟩)] (opv (k, r, a, c)) 49 63
  have W0 := (Wrote.start h hB).later hB0
  obtain ⟨hk, hr, ha, hc⟩ := ho
  simp only at hk hr ha hc
  unfold mx63 at ha
  have hF : fOp (k, r, a, c) = UInt8.ofNat k.toNat :: (fN r ++ (fN a ++ if k = 1 then fN c else [])) := rfl
  rw [hF] at hlen ⊢
  clear hF h hB0
  simp only [opv] at h2 W0 ⊢
  simp only [List.length_append, List.length_cons] at hlen
  have hwk := wrap_byte (x := k) (by omega) (by omega)
  by_cases k1 : k = 1
  · subst k1
    simp only [if_true] at hc hlen ⊢
    have hwc : IntKind.i64.wrap c = c := wrap_char ⟨by omega, by omega⟩
    have HC := hid_of' hlen
    clear hlen
    go_enter Tryd.func53, Tryd.ntmps53
    go_upto_region 2 with (first | (go_at_call 34; refine (wbyte_wr W0.wr _ (by omega) (by omega) (by have := HC.out; omega) W0.size).mono ?_; rintro e w1 ⟨rfl, W1⟩))
    replace h1 := h1.fr W1.fr
    replace h2 := h2.fr W1.fr
    replace W0 := (W0.trans W1).eq (bs' := bs ++ [UInt8.ofNat (1 : Int).toNat]) (by simp only)
    clear W1
    have c1 := ptr_row h1
    have d1 : w1.cell? ⟨w.heap.size + 1, 3, none⟩ = some (.int .i64 r) := h2.cell 3
    go_upto_region 3 with (first | (go_at_call 35; refine (wnum_wr W0.wr _ (by omega) (by omega) (by have := HC.out; simp only [List.length_append, List.length_cons, List.length_nil]; omega) W0.size).mono ?_; rintro e w2 ⟨rfl, W2⟩))
    replace h1 := h1.fr W2.fr
    replace h2 := h2.fr W2.fr
    replace W0 := (W0.trans W2).eq (bs' := bs ++ [UInt8.ofNat (1 : Int).toNat] ++ fN r) (by simp only [List.append_assoc])
    clear W2
    clear c1 d1
    have c1 := ptr_row h1
    have d1 : w2.cell? ⟨w.heap.size + 1, 1, none⟩ = some (.int .i64 a) := h2.cell 1
    go_upto_region 4 with (first | (go_at_call 35; refine (wnum_wr W0.wr _ (by omega) (by omega) (by have := HC.out; simp only [List.length_append, List.length_cons, List.length_nil]; omega) W0.size).mono ?_; rintro e w3 ⟨rfl, W3⟩))
    replace h1 := h1.fr W3.fr
    replace h2 := h2.fr W3.fr
    replace W0 := (W0.trans W3).eq (bs' := bs ++ [UInt8.ofNat (1 : Int).toNat] ++ fN r ++ fN a) (by simp only [List.append_assoc])
    clear W3
    clear c1 d1
    have c1 := ptr_row h1
    have d1 : w3.cell? ⟨w.heap.size + 1, 0, none⟩ = some (.int .i64 1) := h2.cell 0
    have d2 : w3.cell? ⟨w.heap.size + 1, 2, none⟩ = some (.int .i32 c) := h2.cell 2
    go_wp2_with (go_at_call 35; refine (wnum_wr W0.wr _ (by omega) (by omega) (by have := HC.out; simp only [List.length_append, List.length_cons, List.length_nil]; omega) W0.size).mono ?_; rintro e w4 ⟨rfl, W4⟩)
    go_end0
    exact ⟨rfl, (W0.trans W4).eq (by simp only [List.append_assoc, List.cons_append, List.nil_append])⟩
  · have k1' : (k == 1) = false := by simpa using k1
    simp only [if_neg k1] at hc hlen ⊢
    clear k1
    have HC := hid_of' hlen
    clear hlen
    go_enter Tryd.func53, Tryd.ntmps53
    go_upto_region 2 with (first | (go_at_call 34; refine (wbyte_wr W0.wr _ (by omega) (by omega) (by have := HC.out; omega) W0.size).mono ?_; rintro e w1 ⟨rfl, W1⟩))
    replace h1 := h1.fr W1.fr
    replace h2 := h2.fr W1.fr
    replace W0 := (W0.trans W1).eq (bs' := bs ++ [UInt8.ofNat k.toNat]) (by simp only)
    clear W1
    have c1 := ptr_row h1
    have d1 : w1.cell? ⟨w.heap.size + 1, 3, none⟩ = some (.int .i64 r) := h2.cell 3
    go_upto_region 3 with (first | (go_at_call 35; refine (wnum_wr W0.wr _ (by omega) (by omega) (by have := HC.out; simp only [List.length_append, List.length_cons, List.length_nil]; omega) W0.size).mono ?_; rintro e w2 ⟨rfl, W2⟩))
    replace h1 := h1.fr W2.fr
    replace h2 := h2.fr W2.fr
    replace W0 := (W0.trans W2).eq (bs' := bs ++ [UInt8.ofNat k.toNat] ++ fN r) (by simp only [List.append_assoc])
    clear W2
    clear c1 d1
    have c1 := ptr_row h1
    have d1 : w2.cell? ⟨w.heap.size + 1, 1, none⟩ = some (.int .i64 a) := h2.cell 1
    go_upto_region 4 with (first | (go_at_call 35; refine (wnum_wr W0.wr _ (by omega) (by omega) (by have := HC.out; simp only [List.length_append, List.length_cons, List.length_nil]; omega) W0.size).mono ?_; rintro e w3 ⟨rfl, W3⟩))
    replace h1 := h1.fr W3.fr
    replace h2 := h2.fr W3.fr
    replace W0 := (W0.trans W3).eq (bs' := bs ++ [UInt8.ofNat k.toNat] ++ fN r ++ fN a) (by simp only [List.append_assoc])
    clear W3
    clear c1 d1
    have c1 := ptr_row h1
    have d1 : w3.cell? ⟨w.heap.size + 1, 0, none⟩ = some (.int .i64 k) := h2.cell 0
    go_wp2
    go_end0
    exact ⟨rfl, W0.eq (by simp only [List.append_assoc, List.cons_append, List.nil_append, List.append_nil])⟩

set_option maxHeartbeats 2000000 in
theorem round_wr {B b : Nat} {bs : List UInt8} {w : World} (h : ∃ v, WrAt B b bs v w) (r : Prn) (hs : shR r) (ho : okRnd r) (hlen : bs.length + (fRnd r).length ≤ capW) (hB : B ≤ w.heap.size) :
    Calls Tryd.prog 56 #[.agg #[.pointer (some ⟨b, 0, none⟩)], .agg (rnv r)] w fun e w' => e = .returned (.tuple #[]) ∧ Wrote B b (bs ++ fRnd r) w w' := by
  obtain ⟨h1, h2, hB0⟩ := two_boxes w #[.pointer (some ⟨b, 0, none⟩)] (rnv r) 49 26
  have W0 := (Wrote.start h hB).later hB0
  have hF : fRnd r = fN r.1 ++ if r.1 = 0 then [] else fRow r.2.1 ++ (fRow r.2.2.1 ++ fN r.2.2.2) := rfl
  rw [hF] at hlen ⊢
  obtain ⟨hn, ho⟩ := ho
  unfold mx63 at hn
  clear hF h hB0
  have c1 := ptr_row h1
  simp only [List.length_append] at hlen
  by_cases k0 : r.1 = 0
  · simp only [k0, if_true] at hlen ho ⊢
    have HC := hid_of' hlen
    clear hlen ho
    have d1 := h2.cell 0
    rw [rnv_n, k0] at d1
    have K0 := hid_of' k0
    clear k0 hn
    go_enter Tryd.func56, Tryd.ntmps56
    go_upto_region 2 with (first | (go_at_call 35; refine (wnum_wr W0.wr _ (by omega) (by omega) (by have := HC.out; omega) W0.size).mono ?_; rintro e w1 ⟨rfl, W1⟩))
    replace h1 := h1.fr W1.fr
    replace h2 := h2.fr W1.fr
    replace W0 := (W0.trans W1).eq (bs' := bs ++ fN 0) (by simp only)
    clear W1
    clear c1 d1
    have d1 := h2.cell 0
    rw [show (rnv r)[0]? = some (.int .i64 0) from by rw [rnv_n, K0.out]] at d1
    go_wp2
    refine bodyPost_ret (results_none rfl _ _ _) rfl ?_
    exact ⟨rfl, W0.eq (by simp only [List.append_nil])⟩
  · have k0' : (r.1 == 0) = false := by simpa using k0
    simp only [if_neg k0] at hlen ho ⊢
    clear k0
    obtain ⟨hcut, hvot, hdec⟩ := ho
    have hvot' : okRow mx63 r.2.2.1 := ⟨hvot.1, fun x hx => ⟨(hvot.2 x hx).1, by have := (hvot.2 x hx).2; unfold mx63; omega⟩⟩
    simp only [List.length_append] at hlen
    have HC := hid_of' hlen
    clear hlen
    have d1 := h2.cell 0
    rw [rnv_n] at d1
    go_enter Tryd.func56, Tryd.ntmps56
    go_upto_region 2 with (first | (go_at_call 35; refine (wnum_wr W0.wr _ (by omega) (by omega) (by have := HC.out; omega) W0.size).mono ?_; rintro e w1 ⟨rfl, W1⟩))
    replace h1 := h1.fr W1.fr
    replace h2 := h2.fr W1.fr
    replace W0 := (W0.trans W1).eq (bs' := bs ++ fN r.1) (by simp only)
    clear W1
    clear c1 d1
    have d1 := h2.cell 0
    rw [rnv_n] at d1
    have p1 := h2.in.sub (ds := cv r.2.1) 1 (rnv_cut r)
    rw [Nat.zero_add] at p1
    go_upto_region 4 with (first | (refine ld_wt rfl _ rfl rfl h1 ?_) | (refine ld_ck hs.1 rfl _ rfl rfl p1 ?_) | (go_at_call 37; refine (row_wr W0.wr _ hcut (by have := HC.out; simp only [List.length_append]; omega) W0.size).mono ?_; rintro e w2 ⟨rfl, W2⟩))
    replace h1 := h1.fr W2.fr
    replace h2 := h2.fr W2.fr
    replace W0 := (W0.trans W2).eq (bs' := bs ++ fN r.1 ++ fRow r.2.1) (by simp only [List.append_assoc])
    clear W2
    clear d1 p1
    have p1 := h2.in.sub (ds := cv r.2.2.1) 9 (rnv_votes hs)
    rw [Nat.zero_add] at p1
    go_upto_region 5 with (first | (refine ld_wt rfl _ rfl rfl h1 ?_) | (refine ld_row hs.2 rfl _ rfl rfl p1 ?_) | (go_at_call 37; refine (row_wr W0.wr _ hvot' (by have := HC.out; simp only [List.length_append]; omega) W0.size).mono ?_; rintro e w3 ⟨rfl, W3⟩))
    replace h1 := h1.fr W3.fr
    replace h2 := h2.fr W3.fr
    replace W0 := (W0.trans W3).eq (bs' := bs ++ fN r.1 ++ fRow r.2.1 ++ fRow r.2.2.1) (by simp only [List.append_assoc])
    clear W3
    have c1 := ptr_row h1
    have d1 := h2.cell 17
    rw [rnv_dec hs] at d1
    go_wp2_with (go_at_call 35; refine (wnum_wr W0.wr _ (by omega) (by omega) (by have := HC.out; simp only [List.length_append]; omega) W0.size).mono ?_; rintro e w4 ⟨rfl, W4⟩)
    go_end0
    exact ⟨rfl, (W0.trans W4).eq (by simp only [List.append_assoc])⟩
end Go.Proofs.YtildmcmjpmidgaaDoor
