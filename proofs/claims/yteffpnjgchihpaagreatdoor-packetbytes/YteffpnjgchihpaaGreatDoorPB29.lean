
/-
  A message is written; Bytes.
-/
import Derived.Test.YteffpnjgchihpaaGreatDoorPB28
namespace Go.Proofs.YteffpnjgchihpaaGreatDoor
open Go.RowKit
set_option maxRecDepth 100000

theorem RowAt.cellv {b : Nat} {cs : Array Value} {t : TypeId} {w : World} (h : RowAt b cs t w) (k : Nat) (v : Value) (hv : cs[k]? = some v) : w.cell? ⟨b, k, none⟩ = some v := (h.cell k).trans hv
theorem SlA.fr {w w' : World} {v : Value} {l : List Pac} (h : SlA w v l) {B : Nat} (hb : Below B w w') (hB : l = [] ∨ ∀ g, v.ownBlock = some g → g < B) : SlA w' v l := by
  rcases h with ⟨h1, h2⟩ | ⟨g, o_, c, rfl, h2⟩
  · exact .inl ⟨h1, h2⟩
  · rcases hB with rfl | hB
    · exact .inl ⟨rfl, _, _, rfl⟩
    · exact .inr ⟨g, o_, c, rfl, h2.fr hb (hB g rfl)⟩

set_option maxHeartbeats 4000000 in
theorem message1_wr {B b : Nat} {bs : List UInt8} {w : World} (h : ∃ v, WrAt B b bs v w) (f_ e_ : Int) (c : List Int) (A : List Pac) (R : List Prn) (s : Value) (hs : shM (1, f_, e_, c, A, R)) (hf : 0 ≤ f_ ∧ f_ ≤ 7) (he : 0 ≤ e_ ∧ e_ ≤ 9223372036854775807) (hA1 : okActs A) (hS : SlA w s A) (hSB : A = [] ∨ ∀ g, s.ownBlock = some g → g < B) (hlen : bs.length + (1 + ((fN f_).length + ((fN e_).length + (fActs A).length))) ≤ capW) (hB : B ≤ w.heap.size) (hn60 : A.length ≤ 1000000) :
    Calls Tryz.prog 24 #[.agg #[.pointer (some ⟨b, 0, none⟩)], .agg (mv (1, f_, e_, c, A, R) s)] w fun e w' => e = .returned (.tuple #[]) ∧ Wrote B b (bs ++ ([UInt8.ofNat 1] ++ (fN f_ ++ (fN e_ ++ (fActs A))))) w w' := by
  obtain ⟨h1, h2, hB0⟩ := two_boxes w #[.pointer (some ⟨b, 0, none⟩)] (mv (1, f_, e_, c, A, R) s) 66 31
  have W0 := (Wrote.start h hB).later hB0
  replace hS := hS.fr W0.bel hSB
  
  have HC := hid_of' hlen
  clear hlen h hB0
  have c1 := ptr_row h1
  have d1 := h2.cellv 0 (.int .i64 1) rfl
  have hwk : IntKind.u8.wrap 1 = 1 := by rw [IntKind.wrap_u8']; rfl
  go_enter Tryz.func24, Tryz.ntmps24
  go_upto_region 2 with (first | (go_at_call 45; refine (wbyte_wr W0.wr _ (by decide) (by decide) (by have := HC.out; omega) W0.size).mono ?_; rintro e w1 ⟨rfl, W1⟩))
  replace h1 := h1.fr W1.fr
  replace h2 := h2.fr W1.fr
  replace hS := hS.fr W1.bel hSB
  replace W0 := (W0.trans W1).eq (bs' := bs ++ [UInt8.ofNat 1]) (by first | rfl | simp only [List.append_assoc, List.nil_append])
  clear W1
  clear c1 d1 hwk
  have c1 := ptr_row h1
  have d1 := h2.cellv 1 (.int .i64 f_) rfl
  go_upto_region 3 with (first | (go_at_call 46; refine (wnum_wr W0.wr _ (by omega) (by omega) (by have := HC.out; simp only [List.length_append, List.length_cons, List.length_nil]; omega) W0.size).mono ?_; rintro e w2 ⟨rfl, W2⟩))
  replace h1 := h1.fr W2.fr
  replace h2 := h2.fr W2.fr
  replace hS := hS.fr W2.bel hSB
  replace W0 := (W0.trans W2).eq (bs' := bs ++ [UInt8.ofNat 1] ++ fN f_) (by first | rfl | simp only [List.append_assoc, List.nil_append])
  clear W2
  clear c1 d1
  have c1 := ptr_row h1
  have d1 := h2.cellv 2 (.int .i64 e_) rfl
  go_upto_region 4 with (first | (go_at_call 46; refine (wnum_wr W0.wr _ (by omega) (by omega) (by have := HC.out; simp only [List.length_append, List.length_cons, List.length_nil]; omega) W0.size).mono ?_; rintro e w3 ⟨rfl, W3⟩))
  replace h1 := h1.fr W3.fr
  replace h2 := h2.fr W3.fr
  replace hS := hS.fr W3.bel hSB
  replace W0 := (W0.trans W3).eq (bs' := bs ++ [UInt8.ofNat 1] ++ fN f_ ++ fN e_) (by first | rfl | simp only [List.append_assoc, List.nil_append])
  clear W3
  clear c1 d1
  have d1 := h2.cellv 0 (.int .i64 1) rfl
  have d2 := h2.cellv 11 s (mv_a s hs)
  go_wp2_with (first | (refine ld_wt rfl _ rfl rfl h1 ?_) | (go_at_call 47; refine (acts_wr W0.wr A s hS hSB hs.2.1 hA1 (by have := HC.out; simp only [List.length_append, List.length_cons, List.length_nil]; omega) W0.size hn60).mono ?_; rintro e w4 ⟨rfl, W4⟩))
  replace W0 := (W0.trans W4).eq (bs' := bs ++ [UInt8.ofNat 1] ++ fN f_ ++ fN e_ ++ fActs A) (by first | rfl | simp only [List.append_assoc, List.nil_append])
  clear W4
  go_end0
  exact ⟨rfl, W0.eq (by simp only [List.append_assoc, List.cons_append, List.nil_append])⟩

set_option maxHeartbeats 4000000 in
theorem message2_wr {B b : Nat} {bs : List UInt8} {w : World} (h : ∃ v, WrAt B b bs v w) (f_ e_ : Int) (c : List Int) (A : List Pac) (R : List Prn) (s : Value) (hs : shM (2, f_, e_, c, A, R)) (hf : 0 ≤ f_ ∧ f_ ≤ 7) (he : 0 ≤ e_ ∧ e_ ≤ 9223372036854775807) (hC1 : okRow mx63 c) (hS : SlA w s A) (hSB : A = [] ∨ ∀ g, s.ownBlock = some g → g < B) (hlen : bs.length + (1 + ((fN f_).length + ((fN e_).length + (fRow c).length))) ≤ capW) (hB : B ≤ w.heap.size) (_hn60 : A.length ≤ 1000000) :
    Calls Tryz.prog 24 #[.agg #[.pointer (some ⟨b, 0, none⟩)], .agg (mv (2, f_, e_, c, A, R) s)] w fun e w' => e = .returned (.tuple #[]) ∧ Wrote B b (bs ++ ([UInt8.ofNat 2] ++ (fN f_ ++ (fN e_ ++ (fRow c))))) w w' := by
  obtain ⟨h1, h2, hB0⟩ := two_boxes w #[.pointer (some ⟨b, 0, none⟩)] (mv (2, f_, e_, c, A, R) s) 66 31
  have W0 := (Wrote.start h hB).later hB0
  replace hS := hS.fr W0.bel hSB
  
  have HC := hid_of' hlen
  clear hlen h hB0
  have c1 := ptr_row h1
  have d1 := h2.cellv 0 (.int .i64 2) rfl
  have hwk : IntKind.u8.wrap 2 = 2 := by rw [IntKind.wrap_u8']; rfl
  go_enter Tryz.func24, Tryz.ntmps24
  go_upto_region 2 with (first | (go_at_call 45; refine (wbyte_wr W0.wr _ (by decide) (by decide) (by have := HC.out; omega) W0.size).mono ?_; rintro e w1 ⟨rfl, W1⟩))
  replace h1 := h1.fr W1.fr
  replace h2 := h2.fr W1.fr
  replace hS := hS.fr W1.bel hSB
  replace W0 := (W0.trans W1).eq (bs' := bs ++ [UInt8.ofNat 2]) (by first | rfl | simp only [List.append_assoc, List.nil_append])
  clear W1
  clear c1 d1 hwk
  have c1 := ptr_row h1
  have d1 := h2.cellv 1 (.int .i64 f_) rfl
  go_upto_region 3 with (first | (go_at_call 46; refine (wnum_wr W0.wr _ (by omega) (by omega) (by have := HC.out; simp only [List.length_append, List.length_cons, List.length_nil]; omega) W0.size).mono ?_; rintro e w2 ⟨rfl, W2⟩))
  replace h1 := h1.fr W2.fr
  replace h2 := h2.fr W2.fr
  replace hS := hS.fr W2.bel hSB
  replace W0 := (W0.trans W2).eq (bs' := bs ++ [UInt8.ofNat 2] ++ fN f_) (by first | rfl | simp only [List.append_assoc, List.nil_append])
  clear W2
  clear c1 d1
  have c1 := ptr_row h1
  have d1 := h2.cellv 2 (.int .i64 e_) rfl
  go_upto_region 4 with (first | (go_at_call 46; refine (wnum_wr W0.wr _ (by omega) (by omega) (by have := HC.out; simp only [List.length_append, List.length_cons, List.length_nil]; omega) W0.size).mono ?_; rintro e w3 ⟨rfl, W3⟩))
  replace h1 := h1.fr W3.fr
  replace h2 := h2.fr W3.fr
  replace hS := hS.fr W3.bel hSB
  replace W0 := (W0.trans W3).eq (bs' := bs ++ [UInt8.ofNat 2] ++ fN f_ ++ fN e_) (by first | rfl | simp only [List.append_assoc, List.nil_append])
  clear W3
  clear c1 d1
  have d1 := h2.cellv 0 (.int .i64 2) rfl
  have p1 : CsIn (w.heap.size + 1) 3 (cv c) _ := h2.in.msC
  go_wp2_with (first | (refine ld_wt rfl _ rfl rfl h1 ?_) | (refine ld_ck hs.1 rfl _ rfl rfl p1 ?_) | (go_at_call 48; refine (row_wr W0.wr _ hC1 (by have := HC.out; simp only [List.length_append, List.length_cons, List.length_nil]; omega) W0.size).mono ?_; rintro e w4 ⟨rfl, W4⟩))
  replace W0 := (W0.trans W4).eq (bs' := bs ++ [UInt8.ofNat 2] ++ fN f_ ++ fN e_ ++ fRow c) (by first | rfl | simp only [List.append_assoc, List.nil_append])
  clear W4
  go_end0
  exact ⟨rfl, W0.eq (by simp only [List.append_assoc, List.cons_append, List.nil_append])⟩

set_option maxHeartbeats 4000000 in
theorem message3_wr {B b : Nat} {bs : List UInt8} {w : World} (h : ∃ v, WrAt B b bs v w) (f_ e_ : Int) (c : List Int) (A : List Pac) (R : List Prn) (s : Value) (hs : shM (3, f_, e_, c, A, R)) (hf : 0 ≤ f_ ∧ f_ ≤ 7) (he : 0 ≤ e_ ∧ e_ ≤ 9223372036854775807) (hA1 : okActs A) (hR1 : okRnds R) (hS : SlA w s A) (hSB : A = [] ∨ ∀ g, s.ownBlock = some g → g < B) (hlen : bs.length + (1 + ((fN f_).length + ((fN e_).length + (fActs A ++ fRnds R).length))) ≤ capW) (hB : B ≤ w.heap.size) (hn60 : A.length ≤ 1000000) :
    Calls Tryz.prog 24 #[.agg #[.pointer (some ⟨b, 0, none⟩)], .agg (mv (3, f_, e_, c, A, R) s)] w fun e w' => e = .returned (.tuple #[]) ∧ Wrote B b (bs ++ ([UInt8.ofNat 3] ++ (fN f_ ++ (fN e_ ++ (fActs A ++ fRnds R))))) w w' := by
  obtain ⟨h1, h2, hB0⟩ := two_boxes w #[.pointer (some ⟨b, 0, none⟩)] (mv (3, f_, e_, c, A, R) s) 66 31
  have W0 := (Wrote.start h hB).later hB0
  replace hS := hS.fr W0.bel hSB
  simp only [List.length_append] at hlen
  have HC := hid_of' hlen
  clear hlen h hB0
  have c1 := ptr_row h1
  have d1 := h2.cellv 0 (.int .i64 3) rfl
  have hwk : IntKind.u8.wrap 3 = 3 := by rw [IntKind.wrap_u8']; rfl
  go_enter Tryz.func24, Tryz.ntmps24
  go_upto_region 2 with (first | (go_at_call 45; refine (wbyte_wr W0.wr _ (by decide) (by decide) (by have := HC.out; omega) W0.size).mono ?_; rintro e w1 ⟨rfl, W1⟩))
  replace h1 := h1.fr W1.fr
  replace h2 := h2.fr W1.fr
  replace hS := hS.fr W1.bel hSB
  replace W0 := (W0.trans W1).eq (bs' := bs ++ [UInt8.ofNat 3]) (by first | rfl | simp only [List.append_assoc, List.nil_append])
  clear W1
  clear c1 d1 hwk
  have c1 := ptr_row h1
  have d1 := h2.cellv 1 (.int .i64 f_) rfl
  go_upto_region 3 with (first | (go_at_call 46; refine (wnum_wr W0.wr _ (by omega) (by omega) (by have := HC.out; simp only [List.length_append, List.length_cons, List.length_nil]; omega) W0.size).mono ?_; rintro e w2 ⟨rfl, W2⟩))
  replace h1 := h1.fr W2.fr
  replace h2 := h2.fr W2.fr
  replace hS := hS.fr W2.bel hSB
  replace W0 := (W0.trans W2).eq (bs' := bs ++ [UInt8.ofNat 3] ++ fN f_) (by first | rfl | simp only [List.append_assoc, List.nil_append])
  clear W2
  clear c1 d1
  have c1 := ptr_row h1
  have d1 := h2.cellv 2 (.int .i64 e_) rfl
  go_upto_region 4 with (first | (go_at_call 46; refine (wnum_wr W0.wr _ (by omega) (by omega) (by have := HC.out; simp only [List.length_append, List.length_cons, List.length_nil]; omega) W0.size).mono ?_; rintro e w3 ⟨rfl, W3⟩))
  replace h1 := h1.fr W3.fr
  replace h2 := h2.fr W3.fr
  replace hS := hS.fr W3.bel hSB
  replace W0 := (W0.trans W3).eq (bs' := bs ++ [UInt8.ofNat 3] ++ fN f_ ++ fN e_) (by first | rfl | simp only [List.append_assoc, List.nil_append])
  clear W3
  clear c1 d1
  have d1 := h2.cellv 0 (.int .i64 3) rfl
  have d2 := h2.cellv 11 s (mv_a s hs)
  go_upto_region 12 with (first | (refine ld_wt rfl _ rfl rfl h1 ?_) | (go_at_call 47; refine (acts_wr W0.wr A s hS hSB hs.2.1 hA1 (by have := HC.out; simp only [List.length_append, List.length_cons, List.length_nil]; omega) W0.size hn60).mono ?_; rintro e w4 ⟨rfl, W4⟩))
  replace h1 := h1.fr W4.fr
  replace h2 := h2.fr W4.fr
  replace hS := hS.fr W4.bel hSB
  replace W0 := (W0.trans W4).eq (bs' := bs ++ [UInt8.ofNat 3] ++ fN f_ ++ fN e_ ++ fActs A) (by first | rfl | simp only [List.append_assoc, List.nil_append])
  clear W4
  clear d1 d2
  have p1 : CsIn (w.heap.size + 1) 12 (rsv R) _ := h2.in.msR hs
  go_wp2_with (first | (refine ld_wt rfl _ rfl rfl h1 ?_) | (refine ld_rnds hs.2.2 rfl _ rfl rfl p1 ?_) | (go_at_call 49; refine (rounds_wr W0.wr R hs.2.2 hR1 (by have := HC.out; simp only [List.length_append, List.length_cons, List.length_nil]; omega) W0.size).mono ?_; rintro e w5 ⟨rfl, W5⟩))
  replace W0 := (W0.trans W5).eq (bs' := bs ++ [UInt8.ofNat 3] ++ fN f_ ++ fN e_ ++ fActs A ++ fRnds R) (by first | rfl | simp only [List.append_assoc, List.nil_append])
  clear W5
  go_end0
  exact ⟨rfl, W0.eq (by simp only [List.append_assoc, List.cons_append, List.nil_append])⟩

set_option maxHeartbeats 4000000 in
theorem message4_wr {B b : Nat} {bs : List UInt8} {w : World} (h : ∃ v, WrAt B b bs v w) (f_ e_ : Int) (c : List Int) (A : List Pac) (R : List Prn) (s : Value) (hs : shM (4, f_, e_, c, A, R)) (hf : 0 ≤ f_ ∧ f_ ≤ 7) (he : 0 ≤ e_ ∧ e_ ≤ 9223372036854775807) (hR1 : okRnds R) (hS : SlA w s A) (hSB : A = [] ∨ ∀ g, s.ownBlock = some g → g < B) (hlen : bs.length + (1 + ((fN f_).length + ((fN e_).length + (fRnds R).length))) ≤ capW) (hB : B ≤ w.heap.size) (_hn60 : A.length ≤ 1000000) :
    Calls Tryz.prog 24 #[.agg #[.pointer (some ⟨b, 0, none⟩)], .agg (mv (4, f_, e_, c, A, R) s)] w fun e w' => e = .returned (.tuple #[]) ∧ Wrote B b (bs ++ ([UInt8.ofNat 4] ++ (fN f_ ++ (fN e_ ++ (fRnds R))))) w w' := by
  obtain ⟨h1, h2, hB0⟩ := two_boxes w #[.pointer (some ⟨b, 0, none⟩)] (mv (4, f_, e_, c, A, R) s) 66 31
  have W0 := (Wrote.start h hB).later hB0
  replace hS := hS.fr W0.bel hSB
  
  have HC := hid_of' hlen
  clear hlen h hB0
  have c1 := ptr_row h1
  have d1 := h2.cellv 0 (.int .i64 4) rfl
  have hwk : IntKind.u8.wrap 4 = 4 := by rw [IntKind.wrap_u8']; rfl
  go_enter Tryz.func24, Tryz.ntmps24
  go_upto_region 2 with (first | (go_at_call 45; refine (wbyte_wr W0.wr _ (by decide) (by decide) (by have := HC.out; omega) W0.size).mono ?_; rintro e w1 ⟨rfl, W1⟩))
  replace h1 := h1.fr W1.fr
  replace h2 := h2.fr W1.fr
  replace hS := hS.fr W1.bel hSB
  replace W0 := (W0.trans W1).eq (bs' := bs ++ [UInt8.ofNat 4]) (by first | rfl | simp only [List.append_assoc, List.nil_append])
  clear W1
  clear c1 d1 hwk
  have c1 := ptr_row h1
  have d1 := h2.cellv 1 (.int .i64 f_) rfl
  go_upto_region 3 with (first | (go_at_call 46; refine (wnum_wr W0.wr _ (by omega) (by omega) (by have := HC.out; simp only [List.length_append, List.length_cons, List.length_nil]; omega) W0.size).mono ?_; rintro e w2 ⟨rfl, W2⟩))
  replace h1 := h1.fr W2.fr
  replace h2 := h2.fr W2.fr
  replace hS := hS.fr W2.bel hSB
  replace W0 := (W0.trans W2).eq (bs' := bs ++ [UInt8.ofNat 4] ++ fN f_) (by first | rfl | simp only [List.append_assoc, List.nil_append])
  clear W2
  clear c1 d1
  have c1 := ptr_row h1
  have d1 := h2.cellv 2 (.int .i64 e_) rfl
  go_upto_region 4 with (first | (go_at_call 46; refine (wnum_wr W0.wr _ (by omega) (by omega) (by have := HC.out; simp only [List.length_append, List.length_cons, List.length_nil]; omega) W0.size).mono ?_; rintro e w3 ⟨rfl, W3⟩))
  replace h1 := h1.fr W3.fr
  replace h2 := h2.fr W3.fr
  replace hS := hS.fr W3.bel hSB
  replace W0 := (W0.trans W3).eq (bs' := bs ++ [UInt8.ofNat 4] ++ fN f_ ++ fN e_) (by first | rfl | simp only [List.append_assoc, List.nil_append])
  clear W3
  clear c1 d1
  have d1 := h2.cellv 0 (.int .i64 4) rfl
  have p1 : CsIn (w.heap.size + 1) 12 (rsv R) _ := h2.in.msR hs
  go_wp2_with (first | (refine ld_wt rfl _ rfl rfl h1 ?_) | (refine ld_rnds hs.2.2 rfl _ rfl rfl p1 ?_) | (go_at_call 49; refine (rounds_wr W0.wr R hs.2.2 hR1 (by have := HC.out; simp only [List.length_append, List.length_cons, List.length_nil]; omega) W0.size).mono ?_; rintro e w5 ⟨rfl, W5⟩))
  replace W0 := (W0.trans W5).eq (bs' := bs ++ [UInt8.ofNat 4] ++ fN f_ ++ fN e_ ++ fRnds R) (by first | rfl | simp only [List.append_assoc, List.nil_append])
  clear W5
  go_end0
  exact ⟨rfl, W0.eq (by simp only [List.append_assoc, List.cons_append, List.nil_append])⟩

end Go.Proofs.YteffpnjgchihpaaGreatDoor
