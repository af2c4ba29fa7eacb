
/-
  Operations and rounds are written. Rounds and acts are written.
-/
import Derived.Test.YteffpnjgchihpaaGreatDoorPB27
namespace Go.Proofs.YteffpnjgchihpaaGreatDoor
open Go.RowKit
set_option maxRecDepth 100000

theorem szWt (b : Nat) : (Tryz.prog.info? 66).map (·.size) = some (#[Value.pointer (some ⟨b, 0, none⟩)] : Array Value).size := (by kernel_rfl : (Tryz.prog.info? 66).map (·.size) = some 1)
theorem ld_wt {ops : Array Oper} {rest : List Oper} {o : Oper} {a : Act} {w : World} {Q : Exit → Act → World → Prop} {b : Nat} (hgd : o.guard = none) (y : Operand) (ho : o.op = .load 66 y) {k : Nat} (hy : a.eval y = .pointer (some ⟨k, 0, none⟩)) (h : RowAt k #[.pointer (some ⟨b, 0, none⟩)] 66 w) (hk : wpList Tryz.prog ops Q rest (a.put o.dst (.agg #[.pointer (some ⟨b, 0, none⟩)])) w) : wpList Tryz.prog ops Q (o :: rest) a w :=
  wpL_ld hgd _ y ho hy h.in Tryz.underlying66 rfl (szWt b) hk
theorem wrap_byte {x : Int} (h0 : 0 ≤ x) (h1 : x < 256) : IntKind.u8.wrap x = x := by rw [IntKind.wrap_u8']; omega

set_option maxHeartbeats 2000000 in
theorem op_wr {B b : Nat} {bs : List UInt8} {w : World} (h : ∃ v, WrAt B b bs v w) (o : Pop) (ho : okOp o) (hlen : bs.length + (fOp o).length ≤ capW) (hB : B ≤ w.heap.size) :
    Calls Tryz.prog 61 #[.agg #[.pointer (some ⟨b, 0, none⟩)], .agg (opv o)] w fun e w' => e = .returned (.tuple #[]) ∧ Wrote B b (bs ++ fOp o) w w' := by
  obtain ⟨k, r, a, c⟩ := o
  obtain ⟨h1, h2, hB0⟩ := two_boxes w #[.pointer (some ⟨b, 0, none⟩)] (opv (k, r, a, c)) 66 58
  have W0 := (Wrote.start h hB).later hB0
  obtain ⟨hk, hr, ha, hc⟩ := ho
  simp only at hk hr ha hc
  unfold mx63 at ha
  have hF : fOp (k, r, a, c) = UInt8.ofNat k.toNat :: (fN r ++ (fN a ++ if k = 1 then fN c else [])) := rfl
  rw [hF] at hlen ⊢
  clear hF h hB0
  simp only [opv] at h2 W0 ⊢
  simp only [List.length_append, List.length_cons] at hlen
  have hwk := wrap_byte (x := k) (by omega) (by omega)
  by_cases k1 : k = 1
  · subst k1
    simp only [if_true] at hc hlen ⊢
    have hwc : IntKind.i64.wrap c = c := wrap_char ⟨by omega, by omega⟩
    have HC := hid_of' hlen
    clear hlen
    go_enter Tryz.func61, Tryz.ntmps61
    go_upto_region 2 with (first | (go_at_call 45; refine (wbyte_wr W0.wr _ (by omega) (by omega) (by have := HC.out; omega) W0.size).mono ?_; rintro e w1 ⟨rfl, W1⟩))
    replace h1 := h1.fr W1.fr
    replace h2 := h2.fr W1.fr
    replace W0 := (W0.trans W1).eq (bs' := bs ++ [UInt8.ofNat (1 : Int).toNat]) (by simp only)
    clear W1
    have c1 := ptr_row h1
    have d1 : w1.cell? ⟨w.heap.size + 1, 3, none⟩ = some (.int .i64 r) := h2.cell 3
    go_upto_region 3 with (first | (go_at_call 46; refine (wnum_wr W0.wr _ (by omega) (by omega) (by have := HC.out; simp only [List.length_append, List.length_cons, List.length_nil]; omega) W0.size).mono ?_; rintro e w2 ⟨rfl, W2⟩))
    replace h1 := h1.fr W2.fr
    replace h2 := h2.fr W2.fr
    replace W0 := (W0.trans W2).eq (bs' := bs ++ [UInt8.ofNat (1 : Int).toNat] ++ fN r) (by simp only [List.append_assoc])
    clear W2
    clear c1 d1
    have c1 := ptr_row h1
    have d1 : w2.cell? ⟨w.heap.size + 1, 1, none⟩ = some (.int .i64 a) := h2.cell 1
    go_upto_region 4 with (first | (go_at_call 46; refine (wnum_wr W0.wr _ (by omega) (by omega) (by have := HC.out; simp only [List.length_append, List.length_cons, List.length_nil]; omega) W0.size).mono ?_; rintro e w3 ⟨rfl, W3⟩))
    replace h1 := h1.fr W3.fr
    replace h2 := h2.fr W3.fr
    replace W0 := (W0.trans W3).eq (bs' := bs ++ [UInt8.ofNat (1 : Int).toNat] ++ fN r ++ fN a) (by simp only [List.append_assoc])
    clear W3
    clear c1 d1
    have c1 := ptr_row h1
    have d1 : w3.cell? ⟨w.heap.size + 1, 0, none⟩ = some (.int .i64 1) := h2.cell 0
    have d2 : w3.cell? ⟨w.heap.size + 1, 2, none⟩ = some (.int .i32 c) := h2.cell 2
    go_wp2_with (go_at_call 46; refine (wnum_wr W0.wr _ (by omega) (by omega) (by have := HC.out; simp only [List.length_append, List.length_cons, List.length_nil]; omega) W0.size).mono ?_; rintro e w4 ⟨rfl, W4⟩)
    go_end0
    exact ⟨rfl, (W0.trans W4).eq (by simp only [List.append_assoc, List.cons_append, List.nil_append])⟩
  · have k1' : (k == 1) = false := by simpa using k1
    simp only [if_neg k1] at hc hlen ⊢
    clear k1
    have HC := hid_of' hlen
    clear hlen
    go_enter Tryz.func61, Tryz.ntmps61
    go_upto_region 2 with (first | (go_at_call 45; refine (wbyte_wr W0.wr _ (by omega) (by omega) (by have := HC.out; omega) W0.size).mono ?_; rintro e w1 ⟨rfl, W1⟩))
    replace h1 := h1.fr W1.fr
    replace h2 := h2.fr W1.fr
    replace W0 := (W0.trans W1).eq (bs' := bs ++ [UInt8.ofNat k.toNat]) (by simp only)
    clear W1
    have c1 := ptr_row h1
    have d1 : w1.cell? ⟨w.heap.size + 1, 3, none⟩ = some (.int .i64 r) := h2.cell 3
    go_upto_region 3 with (first | (go_at_call 46; refine (wnum_wr W0.wr _ (by omega) (by omega) (by have := HC.out; simp only [List.length_append, List.length_cons, List.length_nil]; omega) W0.size).mono ?_; rintro e w2 ⟨rfl, W2⟩))
    replace h1 := h1.fr W2.fr
    replace h2 := h2.fr W2.fr
    replace W0 := (W0.trans W2).eq (bs' := bs ++ [UInt8.ofNat k.toNat] ++ fN r) (by simp only [List.append_assoc])
    clear W2
    clear c1 d1
    have c1 := ptr_row h1
    have d1 : w2.cell? ⟨w.heap.size + 1, 1, none⟩ = some (.int .i64 a) := h2.cell 1
    go_upto_region 4 with (first | (go_at_call 46; refine (wnum_wr W0.wr _ (by omega) (by omega) (by have := HC.out; simp only [List.length_append, List.length_cons, List.length_nil]; omega) W0.size).mono ?_; rintro e w3 ⟨rfl, W3⟩))
    replace h1 := h1.fr W3.fr
    replace h2 := h2.fr W3.fr
    replace W0 := (W0.trans W3).eq (bs' := bs ++ [UInt8.ofNat k.toNat] ++ fN r ++ fN a) (by simp only [List.append_assoc])
    clear W3
    clear c1 d1
    have c1 := ptr_row h1
    have d1 : w3.cell? ⟨w.heap.size + 1, 0, none⟩ = some (.int .i64 k) := h2.cell 0
    go_wp2
    go_end0
    exact ⟨rfl, W0.eq (by simp only [List.append_assoc, List.cons_append, List.nil_append, List.append_nil])⟩

set_option maxHeartbeats 2000000 in
theorem round_wr {B b : Nat} {bs : List UInt8} {w : World} (h : ∃ v, WrAt B b bs v w) (r : Prn) (hs : shR r) (ho : okRnd r) (hlen : bs.length + (fRnd r).length ≤ capW) (hB : B ≤ w.heap.size) :
    Calls Tryz.prog 64 #[.agg #[.pointer (some ⟨b, 0, none⟩)], .agg (rnv r)] w fun e w' => e = .returned (.tuple #[]) ∧ Wrote B b (bs ++ fRnd r) w w' := by
  obtain ⟨h1, h2, hB0⟩ := two_boxes w #[.pointer (some ⟨b, 0, none⟩)] (rnv r) 66 27
  have W0 := (Wrote.start h hB).later hB0
  have hF : fRnd r = fN r.1 ++ if r.1 = 0 then [] else fRow r.2.1 ++ (fRow r.2.2.1 ++ fN r.2.2.2) := rfl
  rw [hF] at hlen ⊢
  obtain ⟨hn, ho⟩ := ho
  unfold mx63 at hn
  clear hF h hB0
  have c1 := ptr_row h1
  simp only [List.length_append] at hlen
  by_cases k0 : r.1 = 0
  · simp only [k0, if_true] at hlen ho ⊢
    have HC := hid_of' hlen
    clear hlen ho
    have d1 := h2.cell 0
    rw [rnv_n, k0] at d1
    have K0 := hid_of' k0
    clear k0 hn
    go_enter Tryz.func64, Tryz.ntmps64
    go_upto_region 2 with (first | (go_at_call 46; refine (wnum_wr W0.wr _ (by omega) (by omega) (by have := HC.out; omega) W0.size).mono ?_; rintro e w1 ⟨rfl, W1⟩))
    replace h1 := h1.fr W1.fr
    replace h2 := h2.fr W1.fr
    replace W0 := (W0.trans W1).eq (bs' := bs ++ fN 0) (by simp only)
    clear W1
    clear c1 d1
    have d1 := h2.cell 0
    rw [show (rnv r)[0]? = some (.int .i64 0) from by rw [rnv_n, K0.out]] at d1
    go_wp2
    refine bodyPost_ret (results_none rfl _ _ _) rfl ?_
    exact ⟨rfl, W0.eq (by simp only [List.append_nil])⟩
  · have k0' : (r.1 == 0) = false := by simpa using k0
    simp only [if_neg k0] at hlen ho ⊢
    clear k0
    obtain ⟨hcut, hvot, hdec⟩ := ho
    have hvot' : okRow mx63 r.2.2.1 := ⟨hvot.1, fun x hx => ⟨(hvot.2 x hx).1, by have := (hvot.2 x hx).2; unfold mx63; omega⟩⟩
    simp only [List.length_append] at hlen
    have HC := hid_of' hlen
    clear hlen
    have d1 := h2.cell 0
    rw [rnv_n] at d1
    go_enter Tryz.func64, Tryz.ntmps64
    go_upto_region 2 with (first | (go_at_call 46; refine (wnum_wr W0.wr _ (by omega) (by omega) (by have := HC.out; omega) W0.size).mono ?_; rintro e w1 ⟨rfl, W1⟩))
    replace h1 := h1.fr W1.fr
    replace h2 := h2.fr W1.fr
    replace W0 := (W0.trans W1).eq (bs' := bs ++ fN r.1) (by simp only)
    clear W1
    clear c1 d1
    have d1 := h2.cell 0
    rw [rnv_n] at d1
    have p1 := h2.in.sub (ds := cv r.2.1) 1 (rnv_cut r)
    rw [Nat.zero_add] at p1
    go_upto_region 4 with (first | (refine ld_wt rfl _ rfl rfl h1 ?_) | (refine ld_ck hs.1 rfl _ rfl rfl p1 ?_) | (go_at_call 48; refine (row_wr W0.wr _ hcut (by have := HC.out; simp only [List.length_append]; omega) W0.size).mono ?_; rintro e w2 ⟨rfl, W2⟩))
    replace h1 := h1.fr W2.fr
    replace h2 := h2.fr W2.fr
    replace W0 := (W0.trans W2).eq (bs' := bs ++ fN r.1 ++ fRow r.2.1) (by simp only [List.append_assoc])
    clear W2
    clear d1 p1
    have p1 := h2.in.sub (ds := cv r.2.2.1) 9 (rnv_votes hs)
    rw [Nat.zero_add] at p1
    go_upto_region 5 with (first | (refine ld_wt rfl _ rfl rfl h1 ?_) | (refine ld_row hs.2 rfl _ rfl rfl p1 ?_) | (go_at_call 48; refine (row_wr W0.wr _ hvot' (by have := HC.out; simp only [List.length_append]; omega) W0.size).mono ?_; rintro e w3 ⟨rfl, W3⟩))
    replace h1 := h1.fr W3.fr
    replace h2 := h2.fr W3.fr
    replace W0 := (W0.trans W3).eq (bs' := bs ++ fN r.1 ++ fRow r.2.1 ++ fRow r.2.2.1) (by simp only [List.append_assoc])
    clear W3
    have c1 := ptr_row h1
    have d1 := h2.cell 17
    rw [rnv_dec hs] at d1
    go_wp2_with (go_at_call 46; refine (wnum_wr W0.wr _ (by omega) (by omega) (by have := HC.out; simp only [List.length_append]; omega) W0.size).mono ?_; rintro e w4 ⟨rfl, W4⟩)
    go_end0
    exact ⟨rfl, (W0.trans W4).eq (by simp only [List.append_assoc])⟩
end Go.Proofs.YteffpnjgchihpaaGreatDoor
namespace Go.Proofs.YteffpnjgchihpaaGreatDoor
open Go.RowKit
set_option maxRecDepth 100000

theorem flatG_step {α : Type} {f : α → List UInt8} {l : List α} {k : Nat} {x : α} (h : l[k]? = some x) : ((l.take (k + 1)).map f).flatten = ((l.take k).map f).flatten ++ f x := by
  rw [List.take_add_one, h]; simp
theorem flatG_le {α : Type} (f : α → List UInt8) (l : List α) (k n : Nat) (h : k ≤ n) : ((l.take k).map f).flatten.length ≤ ((l.take n).map f).flatten.length := by
  obtain ⟨j, rfl⟩ : ∃ j, n = k + j := ⟨n - k, by omega⟩
  rw [List.take_add]
  simp
theorem flatG_cap {α : Type} {f : α → List UInt8} {l : List α} {k n : Nat} {x : α} (h : l[k]? = some x) (hn : k < n) : ((l.take k).map f).flatten.length + (f x).length ≤ ((l.take n).map f).flatten.length := by
  have := flatG_le f l (k + 1) n hn
  rw [flatG_step h, List.length_append] at this
  exact this

set_option maxHeartbeats 2000000 in
theorem rounds_wr {B b : Nat} {bs : List UInt8} {w : World} (h : ∃ v, WrAt B b bs v w) (l : List Prn) (hs : shRs l) (hl : okRnds l) (hlen : bs.length + (fRnds l).length ≤ capW) (hB : B ≤ w.heap.size) :
    Calls Tryz.prog 49 #[.agg #[.pointer (some ⟨b, 0, none⟩)], .agg (rsv l)] w fun e w' => e = .returned (.tuple #[]) ∧ Wrote B b (bs ++ fRnds l) w w' := by
  obtain ⟨h1, h2, hB0⟩ := two_boxes w #[.pointer (some ⟨b, 0, none⟩)] (rsv l) 66 29
  have W0 := (Wrote.start h hB).later hB0
  have h2i := h2.in
  have hF : fRnds l = formN (lenG nzR l) ++ ((l.take (lenG nzR l)).map fRnd).flatten := rfl
  rw [hF] at hlen ⊢
  have hn8 := lenG_le nzR l
  rw [hl.1] at hn8
  clear hF h
  have hlm : (l.map (·.1)).length = 8 := by simpa using hs.1
  have HNm := hid_of' (fun w => numbers_any l w hs)
  have HLg := hid_of' (fun w => length_any (l.map (·.1)) w hlm)
  rw [lenG_map] at HLg
  generalize lenG nzR l = n at *
  rw [List.length_append] at hlen
  have hfn : fN (n : Int) = formN n := rfl
  have HC := hid_of' hlen
  clear hlen hlm
  go_enter Tryz.func49, Tryz.ntmps49
  go_upto_region 2 with (first | (refine ld_rnds hs rfl _ rfl rfl h2i ?_) | (go_at_call 63; refine (HNm.out _).mono ?_; rintro e w1 ⟨rfl, hb1⟩) | (go_at_call 62; refine (HLg.out _).mono ?_; rintro e w2 ⟨rfl, hb2⟩))
  replace h1 := (h1.later hb1).later hb2
  replace h2 := (h2.later hb1).later hb2
  replace W0 := (W0.later hb1).later hb2
  have c1 := ptr_row h1
  clear hB0 hb1 hb2 h2i HLg HNm
  go_upto_region 3 with (go_at_call 46; refine (wnum_wr W0.wr _ (by omega) (by omega) (by have := HC.out; omega) W0.size).mono ?_; rintro e w3 ⟨rfl, W1⟩)
  replace h1 := h1.fr W1.fr
  replace h2 := h2.fr W1.fr
  replace W1 := (W0.trans W1).eq (show bs ++ fN (n : Int) = bs ++ formN n ++ ((l.take 0).map fRnd).flatten by simp [hfn])
  clear W0 c1 hfn
  have hn8' : (n : Int) ≤ 8 := by omega
  have e1 : (0 : Int) ≤ 0 ∧ (0 : Int) ≤ (n : Int) := by omega
  go_wp2
  go_loopw [17] (fun i wr => ∃ k : Nat, i = .int .i64 (k : Int) ∧ k ≤ n ∧ Wrote B b (bs ++ formN n ++ ((l.take k).map fRnd).flatten) w wr ∧ RowAt w.heap.size #[.pointer (some ⟨b, 0, none⟩)] 66 wr ∧ RowAt (w.heap.size + 1) (rsv l) 29 wr) (fun i _ => n - (intOf i).toNat)
  case atStart => exact ⟨0, rfl, by omega, W1, h1, h2⟩
  case round =>
    clear W1 h1 h2
    obtain ⟨k, rfl, hk, W1, h1, h2⟩ := hrel
    by_cases hkn : k < n
    · have hki : (k : Int) < (n : Int) := by omega
      obtain ⟨r, hx⟩ : ∃ r, l[k]? = some r := ⟨_, List.getElem?_eq_getElem (by rw [hs.1]; omega)⟩
      have hr := hs.2 r (List.mem_of_getElem? hx)
      have ho := hl.2 r (List.mem_of_getElem? hx)
      have HS := hid_of' (flatG_step (f := fRnd) hx)
      have HLe := hid_of' (flatG_cap (f := fRnd) hx hkn)
      have p1 := h2.in.sub (ds := rnv r) (k * 18) (rsv_at hs hx)
      rw [Nat.zero_add] at p1
      clear hx
      have h3 := (RowAt.new wr (rnv r) 27).in
      replace h1 := h1.alloc (.cells (rnv r) 27)
      replace h2 := h2.alloc (.cells (rnv r) 27)
      replace W1 := W1.later (below_one wr (.cells (rnv r) 27))
      go_wp2_with (first | (refine ld_rnd hr rfl _ rfl rfl p1 ?_) | (refine ld_rnd hr rfl _ rfl rfl h3 ?_) | (refine ld_wt rfl _ rfl rfl h1 ?_) | (refine wpL_stNew rfl _ _ _ rfl rfl rfl rfl (rnv_size hr) (by rw [rnv_sz hr]; rfl) (rnv_one r) ?_) | (go_at_call 64; refine (round_wr W1.wr r hr ho (by have := HC.out; have := HLe.out; rw [List.length_append, List.length_append]; omega) W1.size).mono ?_; rintro e w4 ⟨rfl, W2⟩))
      go_roundw
      case rel => exact ⟨k + 1, by go_num, by omega, (W1.trans W2).eq (by rw [HS.out]; simp only [List.append_assoc]), h1.fr W2.fr, h2.fr W2.fr⟩
      case measure => simp [intOf]; omega
    · have hki : ¬ (k : Int) < (n : Int) := by omega
      obtain rfl : k = n := by omega
      go_wp2
      go_end0
      exact ⟨rfl, W1.eq (by simp only [List.append_assoc, List.map_take])⟩

/-- Blocks of acts hold neither bytes nor a Writer. -/
def ActB (w : World) (v : Value) : Prop := ∀ g o_ n c, v = .slice (some ⟨g, o_, none⟩) n c → ∃ cs t, RowAt g cs t w ∧ t ≠ 5 ∧ t ≠ 89
theorem AcsAt.fr {g o_ : Nat} {l : List Pac} {w w' : World} (h : AcsAt g o_ l w) {B : Nat} (hb : Below B w w') (hg : g < B) : AcsAt g o_ l w' :=
  ⟨Nat.lt_of_lt_of_le h.1 hb.size, fun i a hi => ⟨Nat.lt_of_lt_of_le h.1 hb.size, fun j v hv => by rw [hb.cell (p := ⟨g, o_ + i * 13 + j, none⟩) hg]; exact (h.2 i a hi).2 j v hv⟩⟩

set_option maxHeartbeats 2000000 in
theorem acts_wr {B b : Nat} {bs : List UInt8} {w : World} (h : ∃ v, WrAt B b bs v w) (l : List Pac) (v : Value) (hS : SlA w v l) (hSB : l = [] ∨ ∀ g, v.ownBlock = some g → g < B) (hsh : ∀ a ∈ l, shA a) (hl : okActs l) (hlen : bs.length + (fActs l).length ≤ capW) (hB : B ≤ w.heap.size) (hn60 : l.length ≤ 1000000) :
    Calls Tryz.prog 47 #[.agg #[.pointer (some ⟨b, 0, none⟩)], v] w fun e w' => e = .returned (.tuple #[]) ∧ Wrote B b (bs ++ fActs l) w w' := by
  have h1 := RowAt.new w #[.pointer (some ⟨b, 0, none⟩)] 66
  have hB0 := below_one w (.cells #[.pointer (some ⟨b, 0, none⟩)] 66)
  have W0 := (Wrote.start h hB).later hB0
  have hF : fActs l = formN l.length ++ (l.map fAct).flatten := rfl
  rw [hF] at hlen ⊢
  have c1 := ptr_row h1
  rw [List.length_append] at hlen
  clear hF h
  have hS' : (l = [] ∧ ∃ a c, v = .slice a 0 c) ∨ ∃ g o_ c, v = .slice (some ⟨g, o_, none⟩) l.length c ∧ AcsAt g o_ l w ∧ g < B := by
    rcases hS with h | ⟨g, o_, c, rfl, hA⟩
    · exact .inl h
    · rcases hSB with rfl | hSB
      · exact .inl ⟨rfl, _, _, rfl⟩
      · exact .inr ⟨g, o_, c, rfl, hA, hSB g rfl⟩
  clear hS hSB
  rcases hS' with ⟨rfl, a0, cp, rfl⟩ | ⟨g, o_, cp, rfl, hA, hgB⟩
  · have HC := hid_of' hlen
    clear hlen
    go_enter Tryz.func47, Tryz.ntmps47
    go_upto_region 2 with (go_at_call 46; refine (wnum_wr W0.wr _ (by omega) (by omega) (by have := HC.out; omega) W0.size).mono ?_; rintro e w1 ⟨rfl, W1⟩)
    go_wp2
    refine wp_loop_rounds 1 ?_
    rw [rounds_succ]
    go_wp2
    go_end0
    exact ⟨rfl, (W0.trans W1).eq (by simp [fN])⟩
  · obtain ⟨n, hn⟩ : ∃ n, l.length = n := ⟨_, rfl⟩
    have hA0 := hA.fr W0.bel hgB
    have HA := hid_of' (And.intro hA0 (And.intro hsh hl.2))
    clear hA hA0 hsh hl
    rw [hn] at hlen hn60 ⊢
    have HN := hid_of' hn
    have hfn : fN (n : Int) = formN n := rfl
    have hall : l.take n = l := List.take_of_length_le (by omega)
    have HC := hid_of' (show bs.length + ((formN n).length + ((l.take n).map fAct).flatten.length) ≤ capW by rw [hall]; exact hlen)
    clear hn hlen
    have HAll := hid_of' hall
    clear hall
    go_enter Tryz.func47, Tryz.ntmps47
    go_upto_region 2 with (go_at_call 46; refine (wnum_wr W0.wr _ (by omega) (by omega) (by have := HC.out; omega) W0.size).mono ?_; rintro e w1 ⟨rfl, W1⟩)
    replace h1 := h1.fr W1.fr
    have hA1 := HA.out.1.fr W1.bel hgB
    have HA1 := hid_of' (And.intro hA1 HA.out.2)
    clear hA1 HA
    replace W1 := (W0.trans W1).eq (show bs ++ fN (n : Int) = bs ++ formN n ++ ((l.take 0).map fAct).flatten by simp [hfn])
    clear W0 c1 hfn hB0
    go_wp2
    go_loopw [13] (fun i wr => ∃ k : Nat, i = .int .i64 (k : Int) ∧ k ≤ n ∧ Wrote B b (bs ++ formN n ++ ((l.take k).map fAct).flatten) w wr ∧ RowAt w.heap.size #[.pointer (some ⟨b, 0, none⟩)] 66 wr ∧ Hid (AcsAt g o_ l wr)) (fun i _ => n - (intOf i).toNat)
    case atStart => exact ⟨0, rfl, by omega, W1, h1, HA1.out.1⟩
    case round =>
      clear W1 h1
      obtain ⟨k, rfl, hk, W1, h1, HAc⟩ := hrel
      by_cases hkn : k < n
      · have hki : (k : Int) < (n : Int) := by omega
        have hw1 : wrap64 ((k : Int) + 1) = (k : Int) + 1 := by unfold wrap64; omega
        obtain ⟨a, hx⟩ : ∃ a, l[k]? = some a := ⟨_, List.getElem?_eq_getElem (by rw [HN.out]; omega)⟩
        have hsa := HA1.out.2.1 a (List.mem_of_getElem? hx)
        have hok := HA1.out.2.2 a (List.mem_of_getElem? hx)
        have HS := hid_of' (flatG_step (f := fAct) hx)
        have HLe := hid_of' (flatG_cap (f := fAct) hx hkn)
        have p1 := HAc.out.2 k a hx
        clear hx
        have hfa : fAct a = fOp a.1 ++ (fN a.2.1 ++ fRow a.2.2) := rfl
        rw [hfa] at HLe HS
        clear hfa
        obtain ⟨ho1, ho2, ho3⟩ := hok
        unfold mx63 at ho2
        have h3 := RowAt.new wr (acv a) 60
        replace h1 := h1.alloc (.cells (acv a) 60)
        have W0 := Wrote.later (Wrote.start W1.wr W1.size) (below_one wr (.cells (acv a) 60))
        have q1 := h3.in.sub (ds := opv a.1) 0 (acv_op a)
        rw [Nat.zero_add] at q1
        have HD := hid_of' (show (bs ++ formN n ++ ((l.take k).map fAct).flatten).length + ((fOp a.1).length + ((fN a.2.1).length + (fRow a.2.2).length)) ≤ capW by
          have := HC.out
          have := HLe.out
          simp only [List.length_append] at this ⊢
          omega)
        generalize hbk : bs ++ formN n ++ ((l.take k).map fAct).flatten = bk at *
        go_upto_region 6 with (first | (refine ld_act hsa rfl _ rfl rfl p1 ?_) | (refine ld_op rfl _ rfl rfl q1 ?_) | (refine ld_wt rfl _ rfl rfl h1 ?_) | (refine wpL_stNew rfl _ _ _ rfl rfl rfl rfl (acv_size hsa) (by rw [acv_sz hsa]; rfl) (acv_one a) ?_) | (go_at_call 61; refine (op_wr W0.wr a.1 ho1 (by have := HD.out; omega) W0.size).mono ?_; rintro e w2 ⟨rfl, W2⟩))
        replace h1 := h1.fr W2.fr
        replace h3 := h3.fr W2.fr
        replace W0 := W0.trans W2
        clear W2 q1 p1
        have c1 := ptr_row h1
        have d1 := h3.cell 4
        rw [acv_num] at d1
        go_upto_region 7 with (go_at_call 46; refine (wnum_wr W0.wr _ (by omega) (by omega) (by have := HD.out; simp only [List.length_append]; omega) W0.size).mono ?_; rintro e w3 ⟨rfl, W2⟩)
        replace h1 := h1.fr W2.fr
        replace h3 := h3.fr W2.fr
        replace W0 := W0.trans W2
        clear W2 c1 d1
        have q1 := h3.in.sub (ds := cv a.2.2) 5 (acv_ck a)
        rw [Nat.zero_add] at q1
        go_wp2_with (first | (refine ld_ck hsa rfl _ rfl rfl q1 ?_) | (refine ld_wt rfl _ rfl rfl h1 ?_) | (go_at_call 48; refine (row_wr W0.wr _ ho3 (by have := HD.out; simp only [List.length_append]; omega) W0.size).mono ?_; rintro e w4 ⟨rfl, W2⟩))
        go_roundw
        case rel =>
          replace W0 := W0.trans W2
          exact ⟨k + 1, by go_num, by omega, (W1.trans W0).eq (by rw [HS.out, ← hbk]; simp only [List.append_assoc]), h1.fr W2.fr, HAc.out.fr W0.bel hgB⟩
        case measure => simp [intOf]; omega
      · have hki : ¬ (k : Int) < (n : Int) := by omega
        obtain rfl : k = n := by omega
        go_wp2
        go_end0
        exact ⟨rfl, W1.eq (by rw [HAll.out]; simp only [List.append_assoc])⟩
end Go.Proofs.YteffpnjgchihpaaGreatDoor
