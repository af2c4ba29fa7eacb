
/-
  A row of numbers is read.
-/
import Derived.Test.YtildmcmjpmidgaaDoorPkD1
namespace Go.Proofs.YtildmcmjpmidgaaDoor
open Go.RowKit
set_option maxRecDepth 100000

theorem many_err {α : Type} {p : Bool → Prs α} {k : Nat} {bs : List UInt8} {q : Nat} {x : Pe} (h : p (k == 0) bs q = .error x) : pMany p (k + 1) bs q = .error x := pMap_err (pSeq_err h)
theorem many_ok {α : Type} {p : Bool → Prs α} {k : Nat} {bs : List UInt8} {q q1 : Nat} {a : α} (h : p (k == 0) bs q = .ok (a, q1)) : pMany p (k + 1) bs q = pMap (fun l => a :: l) (pMany p k) bs q1 := by
  show pMap _ (pSeq _ _) bs q = _
  cases h2 : pMany p k bs q1 with
  | error x => rw [pMap_err (pSeq_err2 h h2), pMap_err h2]
  | ok y => rw [pMap_ok (pSeq_ok h (b := y.1) (k2 := y.2) h2), pMap_ok (a := y.1) (k := y.2) h2]
theorem map_map {α β γ : Type} (g : β → γ) (f : α → β) (p : Prs α) (bs : List UInt8) (q : Nat) : pMap g (pMap f p) bs q = pMap (fun x => g (f x)) p bs q := by
  unfold pMap
  cases p bs q <;> rfl
theorem map_congr {α β : Type} (g : α → β) {p p' : Prs α} {bs : List UInt8} {q q' : Nat} (h : p bs q = p' bs q') : pMap g p bs q = pMap g p' bs q' := by unfold pMap; rw [h]
theorem pad_set {α : Type} (z : α) {pre : List α} (h : pre.length < 8) (a : α) : (pad8 z pre).set pre.length a = pad8 z (pre ++ [a]) := by
  unfold pad8
  rw [List.set_append_right _ _ (Nat.le_refl _), Nat.sub_self, List.length_append, List.length_singleton]
  obtain ⟨j, hj⟩ : ∃ j, 8 - pre.length = j + 1 := ⟨7 - pre.length, by omega⟩
  have hj2 : 8 - (pre.length + 1) = j := by omega
  rw [hj, hj2, List.replicate_succ, List.set_cons_zero]
  simp
theorem pad_len {α : Type} (z : α) {pre : List α} (h : pre.length ≤ 8) : (pad8 z pre).length = 8 := by simp [pad8]; omega
/-- What is left of a reading of n things, behind the first ones. -/
theorem many_step {α : Type} {p : Bool → Prs α} {n k : Nat} {bs : List UInt8} {q0 q q1 : Nat} {pre : List α} {a : α} (hk : k < n) (h : pMany p n bs q0 = pMap (fun l => pre ++ l) (pMany p (n - k)) bs q) (ha : p (n - (k + 1) == 0) bs q = .ok (a, q1)) : pMany p n bs q0 = pMap (fun l => (pre ++ [a]) ++ l) (pMany p (n - (k + 1))) bs q1 := by
  have e : n - k = n - (k + 1) + 1 := by omega
  rw [h, e, map_congr _ (p' := pMap (fun l => a :: l) (pMany p (n - (k + 1)))) (q' := q1) (many_ok ha), map_map]
  simp only [List.append_assoc, List.singleton_append]
theorem many_stop {α : Type} {p : Bool → Prs α} {n k : Nat} {bs : List UInt8} {q0 q : Nat} {pre : List α} {x : Pe} (hk : k < n) (h : pMany p n bs q0 = pMap (fun l => pre ++ l) (pMany p (n - k)) bs q) (ha : p (n - (k + 1) == 0) bs q = .error x) : pMany p n bs q0 = .error x := by
  have e : n - k = n - (k + 1) + 1 := by omega
  rw [h, e]
  exact pMap_err (many_err ha)
theorem many_end {α : Type} {p : Bool → Prs α} {n : Nat} {bs : List UInt8} {q0 q : Nat} {pre : List α} (h : pMany p n bs q0 = pMap (fun l => pre ++ l) (pMany p (n - n)) bs q) : pMany p n bs q0 = .ok (pre, q) := by
  rw [h, Nat.sub_self]
  show pMap _ (pPure []) bs q = _
  rw [pMap_ok (a := []) (k := q) rfl, List.append_nil]
theorem many_start {α : Type} {p : Bool → Prs α} {n : Nat} {bs : List UInt8} {q0 : Nat} : pMany p n bs q0 = pMap (fun l => [] ++ l) (pMany p (n - 0)) bs q0 := by
  rw [Nat.sub_zero]
  cases h : pMany p n bs q0 with
  | error x => rw [pMap_err h]
  | ok y => rw [pMap_ok (a := y.1) (k := y.2) h]; rfl
theorem rowG_err {α : Type} {z : α} {p : Bool → Prs α} {bs : List UInt8} {pl : Nat} {x : Pe} (h : pNum 8 bs pl = .error x) : pRowG z p bs pl = .error x := pMap_err (pSeq_err h)
theorem rowG_err2 {α : Type} {z : α} {p : Bool → Prs α} {bs : List UInt8} {pl q n : Nat} {x : Pe} (h : pNum 8 bs pl = .ok ((n : Int), q)) (h2 : pMany p n bs q = .error x) : pRowG z p bs pl = .error x := pMap_err (pSeq_err2 h h2)
theorem rowG_ok {α : Type} {z : α} {p : Bool → Prs α} {bs : List UInt8} {pl q q2 n : Nat} {l : List α} (h : pNum 8 bs pl = .ok ((n : Int), q)) (h2 : pMany p n bs q = .ok (l, q2)) : pRowG z p bs pl = .ok (pad8 z l, q2) := pMap_ok (pSeq_ok h h2)
theorem pNum_bnd {most : Int} {bs : List UInt8} {pl q : Nat} {n : Int} (h : pNum most bs pl = .ok (n, q)) : ∃ k : Nat, n = (k : Int) ∧ (k : Int) ≤ most := by
  unfold pNum at h
  cases hr : numR (bs.drop pl) most with
  | error c => rw [hr] at h; cases h
  | ok y =>
    obtain ⟨m, k⟩ := y
    rw [hr] at h
    simp only [Except.ok.injEq, Prod.mk.injEq] at h
    exact ⟨m, h.1.symm, (numR_ok hr).2.2.2.2.1⟩

set_option maxHeartbeats 2000000 in
theorem row_rd {ad : Nat → Addr} {rb sb g : Nat} {bs : List UInt8} {pl : Nat} {w : World} (L : Lw ad w) (h : RdAt rb g bs pl .nilIface w) (hs : SdAt sb rb w) (most : Int) :
    Calls Tryd.prog 67 #[rgv sb, .int .i64 most] w (RdV ad rb g bs w (fun l => .agg (cv l)) (pRow most bs pl)) := by
  have r2 := RowAt.new w (cv (pad8 0 [])) 22
  have hB0 := below_one w (.cells (cv (pad8 0 [])) 22)
  have k1 : Kept [rb] w (w.alloc (.cells (cv (pad8 0 [])) 22)) := (Kept.refl _ w).alloc _
  have hlt := lt_of_heap h.lies
  have hlo := h.lo
  have hsl := hs.lt
  have hne := SdAt.ne hs h
  have L1 := L.kept (S := []) (.of hB0) (by simp)
  have h1 := h.kept (S := []) (.of hB0) (by simp) (by simp)
  have r1 := hs.kept (S := []) (.of hB0) (by simp)
  clear hs
  have HN := hid_of' (number_rd L1 h1 r1 8)
  have HL := hid_of' (And.intro L1 h1)
  have hz : (#[.int .i64 0, .int .i64 0, .int .i64 0, .int .i64 0, .int .i64 0, .int .i64 0, .int .i64 0, .int .i64 0] : Array Value) = cv (pad8 0 []) := rfl
  have hP : pRow most bs pl = pRowG 0 (pEntry most) bs pl := rfl
  rw [hP]
  clear L h L1 h1 hB0 hP
  cases hr : pNum 8 bs pl with
  | error x =>
    have HR := hid_of' hr
    clear hr
    go_enter Tryd.func67, Tryd.ntmps67
    go_wp2_with (first | (go_at_call 47; refine HN.out.mono ?_; intro e w2 h2; obtain ⟨hk2, f, hf, rfl, hp⟩ := h2.err HR.out))
    exact ⟨rfl, RdV.mkErr (rowG_err HR.out) (k1.trans hk2) (by have := k1.size; omega) hp⟩
  | ok y =>
    obtain ⟨n', q0⟩ := y
    obtain ⟨n, rfl, hn8⟩ := pNum_bnd hr
    have HR := hid_of' hr
    clear hr
    go_enter Tryd.func67, Tryd.ntmps67
    go_upto_region 2 with (first | (go_at_call 47; refine HN.out.mono ?_; intro e w2 h2; obtain ⟨hk2, rfl, hr2⟩ := h2.ok HR.out))
    clear hz
    replace r1 := r1.rd hk2 hne
    replace r2 := r2.rd hk2 (by omega)
    replace k1 := k1.trans hk2
    have L2 := HL.out.1.rd hk2 HL.out.2
    clear h2 HN hk2 HL
    go_wp2
    go_loopw [10] (fun i wr => ∃ (k q : Nat) (pre : List Int), i = .int .i64 (k : Int) ∧ k ≤ n ∧ pre.length = k ∧ RdAt rb g bs q .nilIface wr ∧ Kept [rb] w wr ∧ SdAt sb rb wr ∧ RowAt (w.heap.size) (cv (pad8 0 pre)) 22 wr ∧ Lw ad wr ∧ Hid (pMany (pEntry most) n bs q0 = pMap (fun l => pre ++ l) (pMany (pEntry most) (n - k)) bs q)) (fun i _ => n - (intOf i).toNat)
    case atStart => exact ⟨0, q0, [], rfl, by omega, rfl, hr2, k1, r1, r2, L2, many_start⟩
    case round =>
      clear hr2 k1 r1 r2 L2
      obtain ⟨k, q, pre, rfl, hk, hpre, hr2, k1, r1, r2, L2, HI⟩ := hrel
      by_cases hkn : k < n
      · have hki : (k : Int) < (n : Int) := by omega
        have hw1 : wrap64 ((n : Int) - 1) = (n : Int) - 1 := by unfold wrap64; omega
        have hq1 : ((k : Int) == (n : Int) - 1) = (n - (k + 1) == 0) := by
          rw [Bool.eq_iff_iff, beq_iff_eq, beq_iff_eq]; omega
        have hk8 : k < 8 := by omega
        have hk8i : (k : Int) < 8 := by omega
        obtain ⟨last, hlast⟩ : ∃ b, (n - (k + 1) == 0) = b := ⟨_, rfl⟩
        rw [hlast] at hq1
        have HQ := hid_of' hlast
        clear hlast
        have HE := hid_of' (entry_rd L2 hr2 r1 last most)
        have HP8 := hid_of' (pad_len (0 : Int) (pre := pre) (by omega))
        cases hr : pEntry most last bs q with
        | error x =>
          have HX := hid_of' hr
          clear hr
          go_wp2_with (first | (go_at_call 77; (with_reducible refine HE.out.mono ?_); intro e w3 h3; obtain ⟨hk3, f, hf, rfl, hp⟩ := h3.err HX.out))
          exact ⟨rfl, RdV.mkErr (rowG_err2 HR.out (many_stop hkn HI.out (by rw [HQ.out]; exact HX.out))) (k1.trans hk3) (by have := k1.size; omega) hp⟩
        | ok y =>
          obtain ⟨a, q1⟩ := y
          have HX := hid_of' hr
          clear hr
          go_upto_region 6 with (first | (go_at_call 77; (with_reducible refine HE.out.mono ?_); intro e w3 h3; obtain ⟨hk3, rfl, hr3⟩ := h3.ok HX.out; have r3 := r2.rd hk3 (by omega); have d4 : w3.cell? ⟨w.heap.size, k, none⟩ = some (.int .i64 (en (pad8 0 pre) k)) := (by rw [r3.cell, cv_get (by rw [HP8.out]; exact hk8)]); have f4 := frozenW_of r3 k))
          have hset := heap_setCell_at r3 k (.int .i64 a)
          rw [cv_set, ← hpre, pad_set (0 : Int) (by omega) a, hpre] at hset
          have ks : Kept [w.heap.size] w3 (w3.setCell ⟨w.heap.size, k, none⟩ (.int .i64 a)) := (Kept.refl _ _).set (p := ⟨w.heap.size, k, none⟩) (.inl (by simp)) _
          have hr4 := hr3.kept ks (by simp; omega) (by
            intro hm
            simp only [List.mem_singleton] at hm
            have h9 := hr3.raw
            rw [hm, r3] at h9
            simp at h9)
          have r4 : SdAt sb rb (w3.setCell ⟨w.heap.size, k, none⟩ (.int .i64 a)) := (r1.rd hk3 hne).kept ks (by simp; omega)
          have L4 := (L2.rd hk3 hr2).kept ks (by simp; omega)
          have k4 := (k1.trans hk3).go ks (by simp)
          have hw2 : wrap64 ((k : Int) + 1) = (k : Int) + 1 := by unfold wrap64; omega
          clear h3 hr3 r1 hk3 ks d4 f4 L2 hr2 k1 r2 r3
          go_wp2
          go_roundw
          case rel => exact ⟨k + 1, q1, pre ++ [a], by go_num, by omega, by simp [hpre], hr4, k4, r4, hset, L4, many_step hkn HI.out (by rw [HQ.out]; exact HX.out)⟩
          case measure => simp [intOf]; omega
      · have hki : ¬ (k : Int) < (n : Int) := by omega
        obtain rfl : k = n := by omega
        have hpl := pad_len (0 : Int) (pre := pre) (by omega)
        have HP := hid_of' hpl
        clear hpl
        have r2i := r2.in
        go_wp2_with (first | (refine ld_row HP.out rfl _ rfl rfl r2i ?_) | (refine wpList_store_row rfl _ _ _ rfl _ _ rfl rfl _ _ r2 (row_size HP.out) rfl (cv_one _) ?_))
        have ks : Kept [w.heap.size] wr (wr.setRow (w.heap.size) (cv (pad8 0 pre))) := ⟨rfl, rfl, rfl, by simp, fun k hk hn => setRow_other _ _ _ _ (by simpa using hn)⟩
        refine bodyPost_ret (results_cell_row (fn := Tryd.f67) (p := 4) rfl _ _ _ _ _ _ _ rfl (setRow_heap _ _ _ _ _ _ r2) Tryd.underlying22 rfl (row_size HP.out)) rfl ?_
        exact RdV.mkOk (rowG_ok HR.out (many_end HI.out)) (k1.go ks (by simp)) (hr2.kept ks (by simp; omega) (by
            intro hm
            simp only [List.mem_singleton] at hm
            have h9 := hr2.raw
            rw [hm, r2] at h9
            simp at h9))
end Go.Proofs.YtildmcmjpmidgaaDoor
