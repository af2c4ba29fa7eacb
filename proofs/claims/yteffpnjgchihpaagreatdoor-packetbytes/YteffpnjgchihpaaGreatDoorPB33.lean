
/-
  A row of numbers is read. Operations, acts and rounds are read.
-/
import Derived.Test.YteffpnjgchihpaaGreatDoorPB32
namespace Go.Proofs.YteffpnjgchihpaaGreatDoor
open Go.RowKit
set_option maxRecDepth 100000

theorem many_err {α : Type} {p : Bool → Prs α} {k : Nat} {bs : List UInt8} {q : Nat} {x : Pe} (h : p (k == 0) bs q = .error x) : pMany p (k + 1) bs q = .error x := pMap_err (pSeq_err h)
theorem many_ok {α : Type} {p : Bool → Prs α} {k : Nat} {bs : List UInt8} {q q1 : Nat} {a : α} (h : p (k == 0) bs q = .ok (a, q1)) : pMany p (k + 1) bs q = pMap (fun l => a :: l) (pMany p k) bs q1 := by
  show pMap _ (pSeq _ _) bs q = _
  cases h2 : pMany p k bs q1 with
  | error x => rw [pMap_err (pSeq_err2 h h2), pMap_err h2]
  | ok y => rw [pMap_ok (pSeq_ok h (b := y.1) (k2 := y.2) h2), pMap_ok (a := y.1) (k := y.2) h2]
theorem map_map {α β γ : Type} (g : β → γ) (f : α → β) (p : Prs α) (bs : List UInt8) (q : Nat) : pMap g (pMap f p) bs q = pMap (fun x => g (f x)) p bs q := by
  unfold pMap
  cases p bs q <;> rfl
theorem map_congr {α β : Type} (g : α → β) {p p' : Prs α} {bs : List UInt8} {q q' : Nat} (h : p bs q = p' bs q') : pMap g p bs q = pMap g p' bs q' := by unfold pMap; rw [h]
theorem pad_set {α : Type} (z : α) {pre : List α} (h : pre.length < 8) (a : α) : (pad8 z pre).set pre.length a = pad8 z (pre ++ [a]) := by
  unfold pad8
  rw [List.set_append_right _ _ (Nat.le_refl _), Nat.sub_self, List.length_append, List.length_singleton]
  obtain ⟨j, hj⟩ : ∃ j, 8 - pre.length = j + 1 := ⟨7 - pre.length, by omega⟩
  have hj2 : 8 - (pre.length + 1) = j := by omega
  rw [hj, hj2, List.replicate_succ, List.set_cons_zero]
  simp
theorem pad_len {α : Type} (z : α) {pre : List α} (h : pre.length ≤ 8) : (pad8 z pre).length = 8 := by simp [pad8]; omega
/-- What is left of a reading of n things, behind the first ones. -/
theorem many_step {α : Type} {p : Bool → Prs α} {n k : Nat} {bs : List UInt8} {q0 q q1 : Nat} {pre : List α} {a : α} (hk : k < n) (h : pMany p n bs q0 = pMap (fun l => pre ++ l) (pMany p (n - k)) bs q) (ha : p (n - (k + 1) == 0) bs q = .ok (a, q1)) : pMany p n bs q0 = pMap (fun l => (pre ++ [a]) ++ l) (pMany p (n - (k + 1))) bs q1 := by
  have e : n - k = n - (k + 1) + 1 := by omega
  rw [h, e, map_congr _ (p' := pMap (fun l => a :: l) (pMany p (n - (k + 1)))) (q' := q1) (many_ok ha), map_map]
  simp only [List.append_assoc, List.singleton_append]
theorem many_stop {α : Type} {p : Bool → Prs α} {n k : Nat} {bs : List UInt8} {q0 q : Nat} {pre : List α} {x : Pe} (hk : k < n) (h : pMany p n bs q0 = pMap (fun l => pre ++ l) (pMany p (n - k)) bs q) (ha : p (n - (k + 1) == 0) bs q = .error x) : pMany p n bs q0 = .error x := by
  have e : n - k = n - (k + 1) + 1 := by omega
  rw [h, e]
  exact pMap_err (many_err ha)
theorem many_end {α : Type} {p : Bool → Prs α} {n : Nat} {bs : List UInt8} {q0 q : Nat} {pre : List α} (h : pMany p n bs q0 = pMap (fun l => pre ++ l) (pMany p (n - n)) bs q) : pMany p n bs q0 = .ok (pre, q) := by
  rw [h, Nat.sub_self]
  show pMap _ (pPure []) bs q = _
  rw [pMap_ok (a := []) (k := q) rfl, List.append_nil]
theorem many_start {α : Type} {p : Bool → Prs α} {n : Nat} {bs : List UInt8} {q0 : Nat} : pMany p n bs q0 = pMap (fun l => [] ++ l) (pMany p (n - 0)) bs q0 := by
  rw [Nat.sub_zero]
  cases h : pMany p n bs q0 with
  | error x => rw [pMap_err h]
  | ok y => rw [pMap_ok (a := y.1) (k := y.2) h]; rfl
theorem rowG_err {α : Type} {z : α} {p : Bool → Prs α} {bs : List UInt8} {pl : Nat} {x : Pe} (h : pNum 8 bs pl = .error x) : pRowG z p bs pl = .error x := pMap_err (pSeq_err h)
theorem rowG_err2 {α : Type} {z : α} {p : Bool → Prs α} {bs : List UInt8} {pl q n : Nat} {x : Pe} (h : pNum 8 bs pl = .ok ((n : Int), q)) (h2 : pMany p n bs q = .error x) : pRowG z p bs pl = .error x := pMap_err (pSeq_err2 h h2)
theorem rowG_ok {α : Type} {z : α} {p : Bool → Prs α} {bs : List UInt8} {pl q q2 n : Nat} {l : List α} (h : pNum 8 bs pl = .ok ((n : Int), q)) (h2 : pMany p n bs q = .ok (l, q2)) : pRowG z p bs pl = .ok (pad8 z l, q2) := pMap_ok (pSeq_ok h h2)
theorem pNum_bnd {most : Int} {bs : List UInt8} {pl q : Nat} {n : Int} (h : pNum most bs pl = .ok (n, q)) : ∃ k : Nat, n = (k : Int) ∧ (k : Int) ≤ most := by
  unfold pNum at h
  cases hr : numR (bs.drop pl) most with
  | error c => rw [hr] at h; cases h
  | ok y =>
    obtain ⟨m, k⟩ := y
    rw [hr] at h
    simp only [Except.ok.injEq, Prod.mk.injEq] at h
    exact ⟨m, h.1.symm, (numR_ok hr).2.2.2.2.1⟩

set_option maxHeartbeats 2000000 in
theorem row_rd {ad : Nat → Addr} {rb sb g : Nat} {bs : List UInt8} {pl : Nat} {w : World} (L : Lw ad w) (h : RdAt rb g bs pl .nilIface w) (hs : SdAt sb rb w) (most : Int) :
    Calls Tryz.prog 93 #[rgv sb, .int .i64 most] w (RdV ad rb g bs w (fun l => .agg (cv l)) (pRow most bs pl)) := by
  have r2 := RowAt.new w (cv (pad8 0 [])) 23
  have hB0 := below_one w (.cells (cv (pad8 0 [])) 23)
  have k1 : Kept [rb] w (w.alloc (.cells (cv (pad8 0 [])) 23)) := (Kept.refl _ w).alloc _
  have hlt := lt_of_heap h.lies
  have hlo := h.lo
  have hsl := hs.lt
  have hne := SdAt.ne hs h
  have L1 := L.kept (S := []) (.of hB0) (by simp)
  have h1 := h.kept (S := []) (.of hB0) (by simp) (by simp)
  have r1 := hs.kept (S := []) (.of hB0) (by simp)
  clear hs
  have HN := hid_of' (number_rd L1 h1 r1 8)
  have HL := hid_of' (And.intro L1 h1)
  have hz : (#[.int .i64 0, .int .i64 0, .int .i64 0, .int .i64 0, .int .i64 0, .int .i64 0, .int .i64 0, .int .i64 0] : Array Value) = cv (pad8 0 []) := rfl
  have hP : pRow most bs pl = pRowG 0 (pEntry most) bs pl := rfl
  rw [hP]
  clear L h L1 h1 hB0 hP
  cases hr : pNum 8 bs pl with
  | error x =>
    have HR := hid_of' hr
    clear hr
    go_enter Tryz.func93, Tryz.ntmps93
    go_wp2_with (first | (go_at_call 73; refine HN.out.mono ?_; intro e w2 h2; obtain ⟨hk2, f, hf, rfl, hp⟩ := h2.err HR.out))
    exact ⟨rfl, RdV.mkErr (rowG_err HR.out) (k1.trans hk2) (by have := k1.size; omega) hp⟩
  | ok y =>
    obtain ⟨n', q0⟩ := y
    obtain ⟨n, rfl, hn8⟩ := pNum_bnd hr
    have HR := hid_of' hr
    clear hr
    go_enter Tryz.func93, Tryz.ntmps93
    go_upto_region 2 with (first | (go_at_call 73; refine HN.out.mono ?_; intro e w2 h2; obtain ⟨hk2, rfl, hr2⟩ := h2.ok HR.out))
    clear hz
    replace r1 := r1.rd hk2 hne
    replace r2 := r2.rd hk2 (by omega)
    replace k1 := k1.trans hk2
    have L2 := HL.out.1.rd hk2 HL.out.2
    clear h2 HN hk2 HL
    go_wp2
    go_loopw [10] (fun i wr => ∃ (k q : Nat) (pre : List Int), i = .int .i64 (k : Int) ∧ k ≤ n ∧ pre.length = k ∧ RdAt rb g bs q .nilIface wr ∧ Kept [rb] w wr ∧ SdAt sb rb wr ∧ RowAt (w.heap.size) (cv (pad8 0 pre)) 23 wr ∧ Lw ad wr ∧ Hid (pMany (pEntry most) n bs q0 = pMap (fun l => pre ++ l) (pMany (pEntry most) (n - k)) bs q)) (fun i _ => n - (intOf i).toNat)
    case atStart => exact ⟨0, q0, [], rfl, by omega, rfl, hr2, k1, r1, r2, L2, many_start⟩
    case round =>
      clear hr2 k1 r1 r2 L2
      obtain ⟨k, q, pre, rfl, hk, hpre, hr2, k1, r1, r2, L2, HI⟩ := hrel
      by_cases hkn : k < n
      · have hki : (k : Int) < (n : Int) := by omega
        have hw1 : wrap64 ((n : Int) - 1) = (n : Int) - 1 := by unfold wrap64; omega
        have hq1 : ((k : Int) == (n : Int) - 1) = (n - (k + 1) == 0) := by
          rw [Bool.eq_iff_iff, beq_iff_eq, beq_iff_eq]; omega
        have hk8 : k < 8 := by omega
        have hk8i : (k : Int) < 8 := by omega
        obtain ⟨last, hlast⟩ : ∃ b, (n - (k + 1) == 0) = b := ⟨_, rfl⟩
        rw [hlast] at hq1
        have HQ := hid_of' hlast
        clear hlast
        have HE := hid_of' (entry_rd L2 hr2 r1 last most)
        have HP8 := hid_of' (pad_len (0 : Int) (pre := pre) (by omega))
        cases hr : pEntry most last bs q with
        | error x =>
          have HX := hid_of' hr
          clear hr
          go_wp2_with (first | (go_at_call 108; (with_reducible refine HE.out.mono ?_); intro e w3 h3; obtain ⟨hk3, f, hf, rfl, hp⟩ := h3.err HX.out))
          exact ⟨rfl, RdV.mkErr (rowG_err2 HR.out (many_stop hkn HI.out (by rw [HQ.out]; exact HX.out))) (k1.trans hk3) (by have := k1.size; omega) hp⟩
        | ok y =>
          obtain ⟨a, q1⟩ := y
          have HX := hid_of' hr
          clear hr
          go_upto_region 6 with (first | (go_at_call 108; (with_reducible refine HE.out.mono ?_); intro e w3 h3; obtain ⟨hk3, rfl, hr3⟩ := h3.ok HX.out; have r3 := r2.rd hk3 (by omega); have d4 : w3.cell? ⟨w.heap.size, k, none⟩ = some (.int .i64 (en (pad8 0 pre) k)) := (by rw [r3.cell, cv_get (by rw [HP8.out]; exact hk8)]); have f4 := frozenW_of r3 k))
          have hset := heap_setCell_at r3 k (.int .i64 a)
          rw [cv_set, ← hpre, pad_set (0 : Int) (by omega) a, hpre] at hset
          have ks : Kept [w.heap.size] w3 (w3.setCell ⟨w.heap.size, k, none⟩ (.int .i64 a)) := (Kept.refl _ _).set (p := ⟨w.heap.size, k, none⟩) (.inl (by simp)) _
          have hr4 := hr3.kept ks (by simp; omega) (by
            intro hm
            simp only [List.mem_singleton] at hm
            have h9 := hr3.raw
            rw [hm, r3] at h9
            simp at h9)
          have r4 : SdAt sb rb (w3.setCell ⟨w.heap.size, k, none⟩ (.int .i64 a)) := (r1.rd hk3 hne).kept ks (by simp; omega)
          have L4 := (L2.rd hk3 hr2).kept ks (by simp; omega)
          have k4 := (k1.trans hk3).go ks (by simp)
          have hw2 : wrap64 ((k : Int) + 1) = (k : Int) + 1 := by unfold wrap64; omega
          clear h3 hr3 r1 hk3 ks d4 f4 L2 hr2 k1 r2 r3
          go_wp2
          go_roundw
          case rel => exact ⟨k + 1, q1, pre ++ [a], by go_num, by omega, by simp [hpre], hr4, k4, r4, hset, L4, many_step hkn HI.out (by rw [HQ.out]; exact HX.out)⟩
          case measure => simp [intOf]; omega
      · have hki : ¬ (k : Int) < (n : Int) := by omega
        obtain rfl : k = n := by omega
        have hpl := pad_len (0 : Int) (pre := pre) (by omega)
        have HP := hid_of' hpl
        clear hpl
        have r2i := r2.in
        go_wp2_with (first | (refine ld_row HP.out rfl _ rfl rfl r2i ?_) | (refine wpList_store_row rfl _ _ _ rfl _ _ rfl rfl _ _ r2 (row_size HP.out) rfl (cv_one _) ?_))
        have ks : Kept [w.heap.size] wr (wr.setRow (w.heap.size) (cv (pad8 0 pre))) := ⟨rfl, rfl, rfl, by simp, fun k hk hn => setRow_other _ _ _ _ (by simpa using hn)⟩
        refine bodyPost_ret (results_cell_row (fn := Tryz.f93) (p := 4) rfl _ _ _ _ _ _ _ rfl (setRow_heap _ _ _ _ _ _ r2) Tryz.underlying23 rfl (row_size HP.out)) rfl ?_
        exact RdV.mkOk (rowG_ok HR.out (many_end HI.out)) (k1.go ks (by simp)) (hr2.kept ks (by simp; omega) (by
            intro hm
            simp only [List.mem_singleton] at hm
            have h9 := hr2.raw
            rw [hm, r2] at h9
            simp at h9))
end Go.Proofs.YteffpnjgchihpaaGreatDoor
namespace Go.Proofs.YteffpnjgchihpaaGreatDoor
open Go.RowKit
set_option maxRecDepth 100000

/-- A reading in its course: wire's Reader, scan's Reader, the result's block. -/
structure Rst (ad : Nat → Addr) (rb sb g : Nat) (bs : List UInt8) (w : World) (q : Nat) (cs : Array Value) (t : TypeId) (x : World) : Prop where
  rd : RdAt rb g bs q .nilIface x
  kp : Kept [rb] w x
  sd : SdAt sb rb x
  res : RowAt w.heap.size cs t x
  lw : Lw ad x
  lt : rb < w.heap.size
  ls : sb < w.heap.size
  sn : sb ≠ rb
section
variable {ad : Nat → Addr} {rb sb g : Nat} {bs : List UInt8} {w : World} {q : Nat} {cs : Array Value} {t : TypeId} {x y : World}
theorem Rst.start (L : Lw ad w) (h : RdAt rb g bs q .nilIface w) (hs : SdAt sb rb w) (cs : Array Value) (t : TypeId) : Rst ad rb sb g bs w q cs t (w.alloc (.cells cs t)) := by
  have hB0 := below_one w (.cells cs t)
  exact ⟨h.kept (S := []) (.of hB0) (by simp) (by simp), .of hB0, hs.kept (S := []) (.of hB0) (by simp), RowAt.new w cs t, L.kept (S := []) (.of hB0) (by simp), lt_of_heap h.lies, hs.lt, SdAt.ne hs h⟩
theorem Rst.go {q' : Nat} (h : Rst ad rb sb g bs w q cs t x) (hk : Kept [rb] x y) (hr : RdAt rb g bs q' .nilIface y) : Rst ad rb sb g bs w q' cs t y := by
  have := h.lt
  exact ⟨hr, h.kp.trans hk, h.sd.rd hk h.sn, h.res.rd hk (by omega), h.lw.rd hk h.rd, h.lt, h.ls, h.sn⟩
theorem Rst.ne (h : Rst ad rb sb g bs w q cs t x) (ht : t ≠ 5) : g ≠ w.heap.size := fun hm => by
  have h9 := h.rd.raw
  rw [hm, h.res] at h9
  simp only [Option.some.injEq, Obj.cells.injEq] at h9
  exact ht h9.2.1
theorem Rst.own {cs' : Array Value} (h : Rst ad rb sb g bs w q cs t x) (ht : t ≠ 5) (ks : Kept [w.heap.size] x y) (hy : RowAt (w.heap.size) cs' t y) : Rst ad rb sb g bs w q cs' t y := by
  have h1 := h.lt
  have h2 := h.rd.lo
  have h3 := h.ne ht
  have h4 := h.ls
  exact ⟨h.rd.kept ks (by simp; omega) (by simpa using h3), h.kp.go ks (by simp), h.sd.kept ks (by simp; omega), hy, h.lw.kept ks (by simp; omega), h.lt, h.ls, h.sn⟩
theorem Rst.set (h : Rst ad rb sb g bs w q cs t x) (i : Nat) (v : Value) (ht : t ≠ 5 := by decide) : Rst ad rb sb g bs w q (cs.setIfInBounds i v) t (x.setCell ⟨w.heap.size, i, none⟩ v) :=
  h.own ht ((Kept.refl _ _).set (p := ⟨w.heap.size, i, none⟩) (.inl (by simp)) _) (heap_setCell_at h.res i v)
theorem Rst.sets (h : Rst ad rb sb g bs w q cs t x) (i : Nat) (vs : List Value) (ht : t ≠ 5 := by decide) : Rst ad rb sb g bs w q (putA cs i vs) t (x.setCells (w.heap.size) i vs) :=
  h.own ht (kept_setCells vs i x) (heap_setCells vs i cs x h.res)
theorem Rst.row (h : Rst ad rb sb g bs w q cs t x) (ht : t ≠ 5 := by decide) : Rst ad rb sb g bs w q cs t (x.setRow (w.heap.size) cs) :=
  h.own ht ⟨rfl, rfl, rfl, by simp, fun k _ hn => setRow_other _ _ _ _ (by simpa using hn)⟩ (setRow_heap _ _ _ _ _ _ h.res)
theorem Rst.cell (h : Rst ad rb sb g bs w q cs t x) (i : Nat) (v : Value) (hv : cs[i]? = some v) : x.cell? ⟨w.heap.size, i, none⟩ = some v := h.res.cellv i v hv
theorem Rst.froz (h : Rst ad rb sb g bs w q cs t x) (i : Nat) : x.frozen? ⟨w.heap.size, i, none⟩ = false := frozenW_of h.res i
theorem Rst.there (h : Rst ad rb sb g bs w q cs t x) {o n : Nat} (hn : o + n ≤ cs.size) : x.there (w.heap.size) o n := there_ms h.res hn
end
/-- A character. -/
theorem char_rd {ad : Nat → Addr} {rb sb g : Nat} {bs : List UInt8} {pl : Nat} {w : World} (L : Lw ad w) (h : RdAt rb g bs pl .nilIface w) (hs : SdAt sb rb w) :
    Calls Tryz.prog 113 #[rgv sb] w (RdV ad rb g bs w (Value.int .i32) (pNum 1114111 bs pl)) := by
  have HN := hid_of' (number_rd L h hs 1114111)
  clear L h hs
  cases hr : pNum 1114111 bs pl with
  | error x =>
    have HX := hid_of' hr
    clear hr
    go_enter Tryz.func113, Tryz.ntmps113
    go_wp2_with (go_at_call 73; refine HN.out.mono ?_; intro e w2 h2; obtain ⟨hk2, f, hf, rfl, hp⟩ := h2.err HX.out)
    exact ⟨rfl, RdV.mkErr rfl hk2 hf hp⟩
  | ok y =>
    obtain ⟨c, q⟩ := y
    obtain ⟨cn, rfl, hcb⟩ := pNum_bnd hr
    have hcw : IntKind.i32.wrap (cn : Int) = (cn : Int) := by simp [IntKind.wrap, IntKind.bits, IntKind.signed]; omega
    have HX := hid_of' hr
    clear hr
    go_enter Tryz.func113, Tryz.ntmps113
    go_wp2_with (go_at_call 73; refine HN.out.mono ?_; intro e w2 h2; obtain ⟨hk2, rfl, hr2⟩ := h2.ok HX.out)
    go_ret
    exact RdV.mkOk rfl hk2 hr2
theorem opv_one (o : Pop) : (opv o).all (·.oneCell') = true := by simp [opv, Value.oneCell']

set_option maxHeartbeats 4000000 in
theorem op_rd {ad : Nat → Addr} {rb sb g : Nat} {bs : List UInt8} {pl : Nat} {w : World} (L : Lw ad w) (h : RdAt rb g bs pl .nilIface w) (hs : SdAt sb rb w) :
    Calls Tryz.prog 106 #[rgv sb] w (RdV ad rb g bs w (fun o => .agg (opv o)) (pOp bs pl)) := by
  have S0 := Rst.start L h hs (opv (0, 0, 0, 0)) 58
  have hz : (Tryz.prog.info? 58).bind (·.zero) = some (.agg (opv (0, 0, 0, 0))) := by kernel_rfl
  have hP : pOp bs pl = pSeq (pKind 3) (fun k => pSeq (pNum 7) fun _ => pSeq (pNum mx63) fun _ => if k = 1 then pNum 1114111 else pPure 0) bs pl := rfl
  rw [hP]
  clear L h hs hP
  cases p0 : pKind 3 bs pl with
  | error x =>
    have H0 := hid_of' p0
    clear p0
    go_enter Tryz.func106, Tryz.ntmps106
    go_upto_region 1 with (refine wpL_alloc rfl _ rfl hz ?_)
    go_simp
    go_wp2_with (first | (go_at_call 72; have hh := kind_rd S0.lw S0.rd S0.sd 3; (with_reducible refine hh.mono ?_); clear hh; intro e w1 h1; obtain ⟨hk1, f, hf, rfl, hp⟩ := h1.err H0.out))
    exact ⟨rfl, RdV.mkErr (pSeq_err H0.out) (S0.kp.trans hk1) (by have := S0.kp.size; omega) hp⟩
  | ok y =>
    obtain ⟨k, q1⟩ := y
    have H0 := hid_of' p0
    clear p0
    cases p1 : pNum 7 bs q1 with
    | error x =>
      have H1 := hid_of' p1
      clear p1
      go_enter Tryz.func106, Tryz.ntmps106
      go_upto_region 1 with (refine wpL_alloc rfl _ rfl hz ?_)
      go_simp
      go_upto_region 2 with (first | (go_at_call 72; have hh := kind_rd S0.lw S0.rd S0.sd 3; (with_reducible refine hh.mono ?_); clear hh; intro e w1 h1; obtain ⟨hk1, rfl, hr1⟩ := h1.ok H0.out; have T1 := S0.go hk1 hr1; clear h1 hk1 hr1; have d1 := T1.cell 0 (.int .i64 0) rfl; have f1 := T1.froz 0))
      have S1 := T1.set 0 (.int .i64 k)
      clear T1 d1 f1
      clear S0
      go_wp2_with (first | (go_at_call 73; have hh := number_rd S1.lw S1.rd S1.sd 7; (with_reducible refine hh.mono ?_); clear hh; intro e w2 h2; obtain ⟨hk2, f, hf, rfl, hp⟩ := h2.err H1.out))
      exact ⟨rfl, RdV.mkErr (pSeq_err2 H0.out (pSeq_err H1.out)) (S1.kp.trans hk2) (by have := S1.kp.size; omega) hp⟩
    | ok y =>
      obtain ⟨r, q2⟩ := y
      have H1 := hid_of' p1
      clear p1
      cases p2 : pNum mx63 bs q2 with
      | error x =>
        have H2 := hid_of' p2
        clear p2
        go_enter Tryz.func106, Tryz.ntmps106
        go_upto_region 1 with (refine wpL_alloc rfl _ rfl hz ?_)
        go_simp
        go_upto_region 2 with (first | (go_at_call 72; have hh := kind_rd S0.lw S0.rd S0.sd 3; (with_reducible refine hh.mono ?_); clear hh; intro e w1 h1; obtain ⟨hk1, rfl, hr1⟩ := h1.ok H0.out; have T1 := S0.go hk1 hr1; clear h1 hk1 hr1; have d1 := T1.cell 0 (.int .i64 0) rfl; have f1 := T1.froz 0))
        have S1 := T1.set 0 (.int .i64 k)
        clear T1 d1 f1
        clear S0
        go_upto_region 3 with (first | (go_at_call 73; have hh := number_rd S1.lw S1.rd S1.sd 7; (with_reducible refine hh.mono ?_); clear hh; intro e w2 h2; obtain ⟨hk2, rfl, hr2⟩ := h2.ok H1.out; have T2 := S1.go hk2 hr2; clear h2 hk2 hr2; have d2 := T2.cell 3 (.int .i64 0) rfl; have f2 := T2.froz 3))
        have S2 := T2.set 3 (.int .i64 r)
        clear T2 d2 f2
        clear S1
        go_wp2_with (first | (go_at_call 73; have hh := number_rd S2.lw S2.rd S2.sd 9223372036854775807; (with_reducible refine hh.mono ?_); clear hh; intro e w3 h3; obtain ⟨hk3, f, hf, rfl, hp⟩ := h3.err H2.out))
        exact ⟨rfl, RdV.mkErr (pSeq_err2 H0.out (pSeq_err2 H1.out (pSeq_err H2.out))) (S2.kp.trans hk3) (by have := S2.kp.size; omega) hp⟩
      | ok y =>
        obtain ⟨a, q3⟩ := y
        have H2 := hid_of' p2
        clear p2
        by_cases k1 : k = 1
        · subst k1
          cases p3 : pNum 1114111 bs q3 with
          | error x =>
            have H3 := hid_of' p3
            clear p3
            go_enter Tryz.func106, Tryz.ntmps106
            go_upto_region 1 with (refine wpL_alloc rfl _ rfl hz ?_)
            go_simp
            go_upto_region 2 with (first | (go_at_call 72; have hh := kind_rd S0.lw S0.rd S0.sd 3; (with_reducible refine hh.mono ?_); clear hh; intro e w1 h1; obtain ⟨hk1, rfl, hr1⟩ := h1.ok H0.out; have T1 := S0.go hk1 hr1; clear h1 hk1 hr1; have d1 := T1.cell 0 (.int .i64 0) rfl; have f1 := T1.froz 0))
            have S1 := T1.set 0 (.int .i64 1)
            clear T1 d1 f1
            clear S0
            go_upto_region 3 with (first | (go_at_call 73; have hh := number_rd S1.lw S1.rd S1.sd 7; (with_reducible refine hh.mono ?_); clear hh; intro e w2 h2; obtain ⟨hk2, rfl, hr2⟩ := h2.ok H1.out; have T2 := S1.go hk2 hr2; clear h2 hk2 hr2; have d2 := T2.cell 3 (.int .i64 0) rfl; have f2 := T2.froz 3))
            have S2 := T2.set 3 (.int .i64 r)
            clear T2 d2 f2
            clear S1
            go_upto_region 4 with (first | (go_at_call 73; have hh := number_rd S2.lw S2.rd S2.sd 9223372036854775807; (with_reducible refine hh.mono ?_); clear hh; intro e w3 h3; obtain ⟨hk3, rfl, hr3⟩ := h3.ok H2.out; have T3 := S2.go hk3 hr3; clear h3 hk3 hr3; have d3 := T3.cell 1 (.int .i64 0) rfl; have f3 := T3.froz 1))
            have S3 := T3.set 1 (.int .i64 a)
            clear T3 d3 f3
            clear S2
            have dk := S3.cell 0 (.int .i64 1) rfl
            go_wp2_with (first | (go_at_call 113; have hh := char_rd S3.lw S3.rd S3.sd; (with_reducible refine hh.mono ?_); clear hh; intro e w4 h4; obtain ⟨hk4, f, hf, rfl, hp⟩ := h4.err H3.out))
            exact ⟨rfl, RdV.mkErr (pSeq_err2 H0.out (pSeq_err2 H1.out (pSeq_err2 H2.out (by rw [if_pos rfl]; exact H3.out)))) (S3.kp.trans hk4) (by have := S3.kp.size; omega) hp⟩
          | ok y =>
            obtain ⟨c, q4⟩ := y
            obtain ⟨cn, rfl, hcb⟩ := pNum_bnd p3
            have H3 := hid_of' p3
            clear p3
            go_enter Tryz.func106, Tryz.ntmps106
            go_upto_region 1 with (refine wpL_alloc rfl _ rfl hz ?_)
            go_simp
            go_upto_region 2 with (first | (go_at_call 72; have hh := kind_rd S0.lw S0.rd S0.sd 3; (with_reducible refine hh.mono ?_); clear hh; intro e w1 h1; obtain ⟨hk1, rfl, hr1⟩ := h1.ok H0.out; have T1 := S0.go hk1 hr1; clear h1 hk1 hr1; have d1 := T1.cell 0 (.int .i64 0) rfl; have f1 := T1.froz 0))
            have S1 := T1.set 0 (.int .i64 1)
            clear T1 d1 f1
            clear S0
            go_upto_region 3 with (first | (go_at_call 73; have hh := number_rd S1.lw S1.rd S1.sd 7; (with_reducible refine hh.mono ?_); clear hh; intro e w2 h2; obtain ⟨hk2, rfl, hr2⟩ := h2.ok H1.out; have T2 := S1.go hk2 hr2; clear h2 hk2 hr2; have d2 := T2.cell 3 (.int .i64 0) rfl; have f2 := T2.froz 3))
            have S2 := T2.set 3 (.int .i64 r)
            clear T2 d2 f2
            clear S1
            go_upto_region 4 with (first | (go_at_call 73; have hh := number_rd S2.lw S2.rd S2.sd 9223372036854775807; (with_reducible refine hh.mono ?_); clear hh; intro e w3 h3; obtain ⟨hk3, rfl, hr3⟩ := h3.ok H2.out; have T3 := S2.go hk3 hr3; clear h3 hk3 hr3; have d3 := T3.cell 1 (.int .i64 0) rfl; have f3 := T3.froz 1))
            have S3 := T3.set 1 (.int .i64 a)
            clear T3 d3 f3
            clear S2
            have dk := S3.cell 0 (.int .i64 1) rfl
            go_upto_region 6 with (first | (go_at_call 113; have hh := char_rd S3.lw S3.rd S3.sd; (with_reducible refine hh.mono ?_); clear hh; intro e w4 h4; obtain ⟨hk4, rfl, hr4⟩ := h4.ok H3.out; have T4 := S3.go hk4 hr4; clear h4 hk4 hr4; have d4 := T4.cell 2 (.int .i32 0) rfl; have f4 := T4.froz 2))
            have S4 := T4.set 2 (.int .i32 (cn : Int))
            clear T4 d4 f4
            clear S3
            replace S4 : Rst ad rb sb g bs w q4 (opv (1, r, a, (cn : Int))) 58 _ := S4
            have S9i := S4.res.in
            go_wp2_with (first | (refine ld_op (a0 := (1, r, a, (cn : Int))) rfl _ rfl rfl S9i ?_) | (refine wpList_store_row rfl _ _ _ rfl _ _ rfl rfl _ _ S4.res (opv_size (1, r, a, (cn : Int))) rfl (opv_one (1, r, a, (cn : Int))) ?_))
            refine bodyPost_ret (results_cell_row (fn := Tryz.f106) (p := 2) rfl _ _ _ _ _ _ _ rfl (setRow_heap _ _ _ _ _ _ S4.res) Tryz.underlying58 rfl (opv_size (1, r, a, (cn : Int)))) rfl ?_
            exact RdV.mkOk (a := (1, r, a, (cn : Int))) (pSeq_ok H0.out (pSeq_ok H1.out (pSeq_ok H2.out (by rw [if_pos rfl]; exact H3.out)))) S4.row.kp S4.row.rd
        · have k1' : (k == 1) = false := by simpa using k1
          have K1 := hid_of' k1
          clear k1
          go_enter Tryz.func106, Tryz.ntmps106
          go_upto_region 1 with (refine wpL_alloc rfl _ rfl hz ?_)
          go_simp
          go_upto_region 2 with (first | (go_at_call 72; have hh := kind_rd S0.lw S0.rd S0.sd 3; (with_reducible refine hh.mono ?_); clear hh; intro e w1 h1; obtain ⟨hk1, rfl, hr1⟩ := h1.ok H0.out; have T1 := S0.go hk1 hr1; clear h1 hk1 hr1; have d1 := T1.cell 0 (.int .i64 0) rfl; have f1 := T1.froz 0))
          have S1 := T1.set 0 (.int .i64 k)
          clear T1 d1 f1
          clear S0
          go_upto_region 3 with (first | (go_at_call 73; have hh := number_rd S1.lw S1.rd S1.sd 7; (with_reducible refine hh.mono ?_); clear hh; intro e w2 h2; obtain ⟨hk2, rfl, hr2⟩ := h2.ok H1.out; have T2 := S1.go hk2 hr2; clear h2 hk2 hr2; have d2 := T2.cell 3 (.int .i64 0) rfl; have f2 := T2.froz 3))
          have S2 := T2.set 3 (.int .i64 r)
          clear T2 d2 f2
          clear S1
          go_upto_region 4 with (first | (go_at_call 73; have hh := number_rd S2.lw S2.rd S2.sd 9223372036854775807; (with_reducible refine hh.mono ?_); clear hh; intro e w3 h3; obtain ⟨hk3, rfl, hr3⟩ := h3.ok H2.out; have T3 := S2.go hk3 hr3; clear h3 hk3 hr3; have d3 := T3.cell 1 (.int .i64 0) rfl; have f3 := T3.froz 1))
          have S3 := T3.set 1 (.int .i64 a)
          clear T3 d3 f3
          clear S2
          have dk := S3.cell 0 (.int .i64 k) rfl
          replace S3 : Rst ad rb sb g bs w q3 (opv (k, r, a, 0)) 58 _ := S3
          have S9i := S3.res.in
          go_wp2_with (first | (refine ld_op (a0 := (k, r, a, 0)) rfl _ rfl rfl S9i ?_) | (refine wpList_store_row rfl _ _ _ rfl _ _ rfl rfl _ _ S3.res (opv_size (k, r, a, 0)) rfl (opv_one (k, r, a, 0)) ?_))
          refine bodyPost_ret (results_cell_row (fn := Tryz.f106) (p := 2) rfl _ _ _ _ _ _ _ rfl (setRow_heap _ _ _ _ _ _ S3.res) Tryz.underlying58 rfl (opv_size (k, r, a, 0))) rfl ?_
          exact RdV.mkOk (a := (k, r, a, 0)) (pSeq_ok H0.out (pSeq_ok H1.out (pSeq_ok H2.out (by rw [if_neg K1.out]; rfl)))) S3.row.kp S3.row.rd
end Go.Proofs.YteffpnjgchihpaaGreatDoor
