
/-
  Operations, acts and rounds are read.
-/
import Derived.Test.YtildmcmjpmidgaaDoorPkD2
namespace Go.Proofs.YtildmcmjpmidgaaDoor
open Go.RowKit
set_option maxRecDepth 100000

/-- A reading in its course: wire's Reader, scan's Reader, the result's block. -/
structure Rst (ad : Nat → Addr) (rb sb g : Nat) (bs : List UInt8) (w : World) (q : Nat) (cs : Array Value) (t : TypeId) (x : World) : Prop where
  rd : RdAt rb g bs q .nilIface x
  kp : Kept [rb] w x
  sd : SdAt sb rb x
  res : RowAt w.heap.size cs t x
  lw : Lw ad x
  lt : rb < w.heap.size
  ls : sb < w.heap.size
  sn : sb ≠ rb
section
variable {ad : Nat → Addr} {rb sb g : Nat} {bs : List UInt8} {w : World} {q : Nat} {cs : Array Value} {t : TypeId} {x y : World}
theorem Rst.start (L : Lw ad w) (h : RdAt rb g bs q .nilIface w) (hs : SdAt sb rb w) (cs : Array Value) (t : TypeId) : Rst ad rb sb g bs w q cs t (w.alloc (.cells cs t)) := by
  have hB0 := below_one w (.cells cs t)
  exact ⟨h.kept (S := []) (.of hB0) (by simp) (by simp), .of hB0, hs.kept (S := []) (.of hB0) (by simp), RowAt.new w cs t, L.kept (S := []) (.of hB0) (by simp), lt_of_heap h.lies, hs.lt, SdAt.ne hs h⟩
theorem Rst.go {q' : Nat} (h : Rst ad rb sb g bs w q cs t x) (hk : Kept [rb] x y) (hr : RdAt rb g bs q' .nilIface y) : Rst ad rb sb g bs w q' cs t y := by
  have := h.lt
  exact ⟨hr, h.kp.trans hk, h.sd.rd hk h.sn, h.res.rd hk (by omega), h.lw.rd hk h.rd, h.lt, h.ls, h.sn⟩
theorem Rst.ne (h : Rst ad rb sb g bs w q cs t x) (ht : t ≠ 5) : g ≠ w.heap.size := fun hm => by
  have h9 := h.rd.raw
  rw [hm, h.res] at h9
  simp only [Option.some.injEq, Obj.cells.injEq] at h9
  exact ht h9.2.1
theorem Rst.own {cs' : Array Value} (h : Rst ad rb sb g bs w q cs t x) (ht : t ≠ 5) (ks : Kept [w.heap.size] x y) (hy : RowAt (w.heap.size) cs' t y) : Rst ad rb sb g bs w q cs' t y := by
  have h1 := h.lt
  have h2 := h.rd.lo
  have h3 := h.ne ht
  have h4 := h.ls
  exact ⟨h.rd.kept ks (by simp; omega) (by simpa using h3), h.kp.go ks (by simp), h.sd.kept ks (by simp; omega), hy, h.lw.kept ks (by simp; omega), h.lt, h.ls, h.sn⟩
theorem Rst.set (h : Rst ad rb sb g bs w q cs t x) (i : Nat) (v : Value) (ht : t ≠ 5 := by decide) : Rst ad rb sb g bs w q (cs.setIfInBounds i v) t (x.setCell ⟨w.heap.size, i, none⟩ v) :=
  h.own ht ((Kept.refl _ _).set (p := ⟨w.heap.size, i, none⟩) (.inl (by simp)) _) (heap_setCell_at h.res i v)
theorem Rst.sets (h : Rst ad rb sb g bs w q cs t x) (i : Nat) (vs : List Value) (ht : t ≠ 5 := by decide) : Rst ad rb sb g bs w q (putA cs i vs) t (x.setCells (w.heap.size) i vs) :=
  h.own ht (kept_setCells vs i x) (heap_setCells vs i cs x h.res)
theorem Rst.row (h : Rst ad rb sb g bs w q cs t x) (ht : t ≠ 5 := by decide) : Rst ad rb sb g bs w q cs t (x.setRow (w.heap.size) cs) :=
  h.own ht ⟨rfl, rfl, rfl, by simp, fun k _ hn => setRow_other _ _ _ _ (by simpa using hn)⟩ (setRow_heap _ _ _ _ _ _ h.res)
theorem Rst.cell (h : Rst ad rb sb g bs w q cs t x) (i : Nat) (v : Value) (hv : cs[i]? = some v) : x.cell? ⟨w.heap.size, i, none⟩ = some v := h.res.cellv i v hv
theorem Rst.froz (h : Rst ad rb sb g bs w q cs t x) (i : Nat) : x.frozen? ⟨w.heap.size, i, none⟩ = false := frozenW_of h.res i
theorem Rst.there (h : Rst ad rb sb g bs w q cs t x) {o n : Nat} (hn : o + n ≤ cs.size) : x.there (w.heap.size) o n := there_ms h.res hn
end
/-- A character. -/
theorem char_rd {ad : Nat → Addr} {rb sb g : Nat} {bs : List UInt8} {pl : Nat} {w : World} (L : Lw ad w) (h : RdAt rb g bs pl .nilIface w) (hs : SdAt sb rb w) :
    Calls Tryd.prog 81 #[rgv sb] w (RdV ad rb g bs w (Value.int .i32) (pNum 1114111 bs pl)) := by
  have HN := hid_of' (number_rd L h hs 1114111)
  clear L h hs
  cases hr : pNum 1114111 bs pl with
  | error x =>
    have HX := hid_of' hr
    clear hr
    go_enter Tryd.func81, Tryd.ntmps81
    go_wp2_with (go_at_call 47; refine HN.out.mono ?_; intro e w2 h2; obtain ⟨hk2, f, hf, rfl, hp⟩ := h2.err HX.out)
    exact ⟨rfl, RdV.mkErr rfl hk2 hf hp⟩
  | ok y =>
    obtain ⟨c, q⟩ := y
    obtain ⟨cn, rfl, hcb⟩ := pNum_bnd hr
    have hcw : IntKind.i32.wrap (cn : Int) = (cn : Int) := by simp [IntKind.wrap, IntKind.bits, IntKind.signed]; omega
    have HX := hid_of' hr
    clear hr
    go_enter Tryd.func81, Tryd.ntmps81
    go_wp2_with (go_at_call 47; refine HN.out.mono ?_; intro e w2 h2; obtain ⟨hk2, rfl, hr2⟩ := h2.ok HX.out)
    go_ret
    exact RdV.mkOk rfl hk2 hr2
theorem opv_one (o : Pop) : (opv o).all (·.oneCell') = true := by simp [opv, Value.oneCell']

set_option maxHeartbeats 4000000 in
theorem op_rd {ad : Nat → Addr} {rb sb g : Nat} {bs : List UInt8} {pl : Nat} {w : World} (L : Lw ad w) (h : RdAt rb g bs pl .nilIface w) (hs : SdAt sb rb w) :
    Calls Tryd.prog 75 #[rgv sb] w (RdV ad rb g bs w (fun o => .agg (opv o)) (pOp bs pl)) := by
  have S0 := Rst.start L h hs (opv (0, 0, 0, 0)) 63
  have hz : (Tryd.prog.info? 63).bind (·.zero) = some (.agg (opv (0, 0, 0, 0))) := by kernel_rfl
  have hP : pOp bs pl = pSeq (pKind 3) (fun k => pSeq (pNum 7) fun _ => pSeq (pNum mx63) fun _ => if k = 1 then pNum 1114111 else pPure 0) bs pl := rfl
  rw [hP]
  clear L h hs hP
  cases p0 : pKind 3 bs pl with
  | error x =>
    have H0 := hid_of' p0
    clear p0
    go_enter Tryd.func75, Tryd.ntmps75
    go_upto_region 1 with (refine wpL_alloc rfl _ rfl hz ?_)
    go_simp
    go_wp2_with (first | (go_at_call 46; have hh := kind_rd S0.lw S0.rd S0.sd 3; (with_reducible refine hh.mono ?_); clear hh; intro e w1 h1; obtain ⟨hk1, f, hf, rfl, hp⟩ := h1.err H0.out))
    exact ⟨rfl, RdV.mkErr (pSeq_err H0.out) (S0.kp.trans hk1) (by have := S0.kp.size; omega) hp⟩
  | ok y =>
    obtain ⟨k, q1⟩ := y
    have H0 := hid_of' p0
    clear p0
    cases p1 : pNum 7 bs q1 with
    | error x =>
      have H1 := hid_of' p1
      clear p1
      go_enter Tryd.func75, Tryd.ntmps75
      go_upto_region 1 with (refine wpL_alloc rfl _ rfl hz ?_)
      go_simp
      go_upto_region 2 with (first | (go_at_call 46; have hh := kind_rd S0.lw S0.rd S0.sd 3; (with_reducible refine hh.mono ?_); clear hh; intro e w1 h1; obtain ⟨hk1, rfl, hr1⟩ := h1.ok H0.out; have T1 := S0.go hk1 hr1; clear h1 hk1 hr1; have d1 := T1.cell 0 (.int .i64 0) rfl; have f1 := T1.froz 0))
      have S1 := T1.set 0 (.int .i64 k)
      clear T1 d1 f1
      clear S0
      go_wp2_with (first | (go_at_call 47; have hh := number_rd S1.lw S1.rd S1.sd 7; (with_reducible refine hh.mono ?_); clear hh; intro e w2 h2; obtain ⟨hk2, f, hf, rfl, hp⟩ := h2.err H1.out))
      exact ⟨rfl, RdV.mkErr (pSeq_err2 H0.out (pSeq_err H1.out)) (S1.kp.trans hk2) (by have := S1.kp.size; omega) hp⟩
    | ok y =>
      obtain ⟨r, q2⟩ := y
      have H1 := hid_of' p1
      clear p1
      cases p2 : pNum mx63 bs q2 with
      | error x =>
        have H2 := hid_of' p2
        clear p2
        go_enter Tryd.func75, Tryd.ntmps75
        go_upto_region 1 with (refine wpL_alloc rfl _ rfl hz ?_)
        go_simp
        go_upto_region 2 with (first | (go_at_call 46; have hh := kind_rd S0.lw S0.rd S0.sd 3; (with_reducible refine hh.mono ?_); clear hh; intro e w1 h1; obtain ⟨hk1, rfl, hr1⟩ := h1.ok H0.out; have T1 := S0.go hk1 hr1; clear h1 hk1 hr1; have d1 := T1.cell 0 (.int .i64 0) rfl; have f1 := T1.froz 0))
        have S1 := T1.set 0 (.int .i64 k)
        clear T1 d1 f1
        clear S0
        go_upto_region 3 with (first | (go_at_call 47; have hh := number_rd S1.lw S1.rd S1.sd 7; (with_reducible refine hh.mono ?_); clear hh; intro e w2 h2; obtain ⟨hk2, rfl, hr2⟩ := h2.ok H1.out; have T2 := S1.go hk2 hr2; clear h2 hk2 hr2; have d2 := T2.cell 3 (.int .i64 0) rfl; have f2 := T2.froz 3))
        have S2 := T2.set 3 (.int .i64 r)
        clear T2 d2 f2
        clear S1
        go_wp2_with (first | (go_at_call 47; have hh := number_rd S2.lw S2.rd S2.sd 9223372036854775807; (with_reducible refine hh.mono ?_); clear hh; intro e w3 h3; obtain ⟨hk3, f, hf, rfl, hp⟩ := h3.err H2.out))
        exact ⟨rfl, RdV.mkErr (pSeq_err2 H0.out (pSeq_err2 H1.out (pSeq_err H2.out))) (S2.kp.trans hk3) (by have := S2.kp.size; omega) hp⟩
      | ok y =>
        obtain ⟨a, q3⟩ := y
        have H2 := hid_of' p2
        clear p2
        by_cases k1 : k = 1
        · subst k1
          cases p3 : pNum 1114111 bs q3 with
          | error x =>
            have H3 := hid_of' p3
            clear p3
            go_enter Tryd.func75, Tryd.ntmps75
            go_upto_region 1 with (refine wpL_alloc rfl _ rfl hz ?_)
            go_simp
            go_upto_region 2 with (first | (go_at_call 46; have hh := kind_rd S0.lw S0.rd S0.sd 3; (with_reducible refine hh.mono ?_); clear hh; intro e w1 h1; obtain ⟨hk1, rfl, hr1⟩ := h1.ok H0.out; have T1 := S0.go hk1 hr1; clear h1 hk1 hr1; have d1 := T1.cell 0 (.int .i64 0) rfl; have f1 := T1.froz 0))
            have S1 := T1.set 0 (.int .i64 1)
            clear T1 d1 f1
            clear S0
            go_upto_region 3 with (first | (go_at_call 47; have hh := number_rd S1.lw S1.rd S1.sd 7; (with_reducible refine hh.mono ?_); clear hh; intro e w2 h2; obtain ⟨hk2, rfl, hr2⟩ := h2.ok H1.out; have T2 := S1.go hk2 hr2; clear h2 hk2 hr2; have d2 := T2.cell 3 (.int .i64 0) rfl; have f2 := T2.froz 3))
            have S2 := T2.set 3 (.int .i64 r)
            clear T2 d2 f2
            clear S1
            go_upto_region 4 with (first | (go_at_call 47; have hh := number_rd S2.lw S2.rd S2.sd 9223372036854775807; (with_reducible refine hh.mono ?_); clear hh; intro e w3 h3; obtain ⟨hk3, rfl, hr3⟩ := h3.ok H2.out; have T3 := S2.go hk3 hr3; clear h3 hk3 hr3; have d3 := T3.cell 1 (.int .i64 0) rfl; have f3 := T3.froz 1))
            have S3 := T3.set 1 (.int .i64 a)
            clear T3 d3 f3
            clear S2
            have dk := S3.cell 0 (.int .i64 1) rfl
            go_wp2_with (first | (go_at_call 81; have hh := char_rd S3.lw S3.rd S3.sd; (with_reducible refine hh.mono ?_); clear hh; intro e w4 h4; obtain ⟨hk4, f, hf, rfl, hp⟩ := h4.err H3.out))
            exact ⟨rfl, RdV.mkErr (pSeq_err2 H0.out (pSeq_err2 H1.out (pSeq_err2 H2.out (by rw [if_pos rfl]; exact H3.out)))) (S3.kp.trans hk4) (by have := S3.kp.size; omega) hp⟩
          | ok y =>
            obtain ⟨c, q4⟩ := y
            obtain ⟨cn, rfl, hcb⟩ := pNum_bnd p3
            have H3 := hid_of' p3
            clear p3
            go_enter Tryd.func75, Tryd.ntmps75
            go_upto_region 1 with (refine wpL_alloc rfl _ rfl hz ?_)
            go_simp
            go_upto_region 2 with (first | (go_at_call 46; have hh := kind_rd S0.lw S0.rd S0.sd 3; (with_reducible refine hh.mono ?_); clear hh; intro e w1 h1; obtain ⟨hk1, rfl, hr1⟩ := h1.ok H0.out; have T1 := S0.go hk1 hr1; clear h1 hk1 hr1; have d1 := T1.cell 0 (.int .i64 0) rfl; have f1 := T1.froz 0))
            have S1 := T1.set 0 (.int .i64 1)
            clear T1 d1 f1
            clear S0
            go_upto_region 3 with (first | (go_at_call 47; have hh := number_rd S1.lw S1.rd S1.sd 7; (with_reducible refine hh.mono ?_); clear hh; intro e w2 h2; obtain ⟨hk2, rfl, hr2⟩ := h2.ok H1.out; have T2 := S1.go hk2 hr2; clear h2 hk2 hr2; have d2 := T2.cell 3 (.int .i64 0) rfl; have f2 := T2.froz 3))
            have S2 := T2.set 3 (.int .i64 r)
            clear T2 d2 f2
            clear S1
            go_upto_region 4 with (first | (go_at_call 47; have hh := number_rd S2.lw S2.rd S2.sd 9223372036854775807; (with_reducible refine hh.mono ?_); clear hh; intro e w3 h3; obtain ⟨hk3, rfl, hr3⟩ := h3.ok H2.out; have T3 := S2.go hk3 hr3; clear h3 hk3 hr3; have d3 := T3.cell 1 (.int .i64 0) rfl; have f3 := T3.froz 1))
            have S3 := T3.set 1 (.int .i64 a)
            clear T3 d3 f3
            clear S2
            have dk := S3.cell 0 (.int .i64 1) rfl
            go_upto_region 6 with (first | (go_at_call 81; have hh := char_rd S3.lw S3.rd S3.sd; (with_reducible refine hh.mono ?_); clear hh; intro e w4 h4; obtain ⟨hk4, rfl, hr4⟩ := h4.ok H3.out; have T4 := S3.go hk4 hr4; clear h4 hk4 hr4; have d4 := T4.cell 2 (.int .i32 0) rfl; have f4 := T4.froz 2))
            have S4 := T4.set 2 (.int .i32 (cn : Int))
            clear T4 d4 f4
            clear S3
            replace S4 : Rst ad rb sb g bs w q4 (opv (1, r, a, (cn : Int))) 63 _ := S4
            have S9i := S4.res.in
            go_wp2_with (first | (refine ld_op (a0 := (1, r, a, (cn : Int))) rfl _ rfl rfl S9i ?_) | (refine wpList_store_row rfl _ _ _ rfl _ _ rfl rfl _ _ S4.res (opv_size (1, r, a, (cn : Int))) rfl (opv_one (1, r, a, (cn : Int))) ?_))
            refine bodyPost_ret (results_cell_row (fn := Tryd.f75) (p := 2) rfl _ _ _ _ _ _ _ rfl (setRow_heap _ _ _ _ _ _ S4.res) Tryd.underlying63 rfl (opv_size (1, r, a, (cn : Int)))) rfl ?_
            exact RdV.mkOk (a := (1, r, a, (cn : Int))) (pSeq_ok H0.out (pSeq_ok H1.out (pSeq_ok H2.out (by rw [if_pos rfl]; exact H3.out)))) S4.row.kp S4.row.rd
        · have k1' : (k == 1) = false := by simpa using k1
          have K1 := hid_of' k1
          clear k1
          go_enter Tryd.func75, Tryd.ntmps75
          go_upto_region 1 with (refine wpL_alloc rfl _ rfl hz ?_)
          go_simp
          go_upto_region 2 with (first | (go_at_call 46; have hh := kind_rd S0.lw S0.rd S0.sd 3; (with_reducible refine hh.mono ?_); clear hh; intro e w1 h1; obtain ⟨hk1, rfl, hr1⟩ := h1.ok H0.out; have T1 := S0.go hk1 hr1; clear h1 hk1 hr1; have d1 := T1.cell 0 (.int .i64 0) rfl; have f1 := T1.froz 0))
          have S1 := T1.set 0 (.int .i64 k)
          clear T1 d1 f1
          clear S0
          go_upto_region 3 with (first | (go_at_call 47; have hh := number_rd S1.lw S1.rd S1.sd 7; (with_reducible refine hh.mono ?_); clear hh; intro e w2 h2; obtain ⟨hk2, rfl, hr2⟩ := h2.ok H1.out; have T2 := S1.go hk2 hr2; clear h2 hk2 hr2; have d2 := T2.cell 3 (.int .i64 0) rfl; have f2 := T2.froz 3))
          have S2 := T2.set 3 (.int .i64 r)
          clear T2 d2 f2
          clear S1
          go_upto_region 4 with (first | (go_at_call 47; have hh := number_rd S2.lw S2.rd S2.sd 9223372036854775807; (with_reducible refine hh.mono ?_); clear hh; intro e w3 h3; obtain ⟨hk3, rfl, hr3⟩ := h3.ok H2.out; have T3 := S2.go hk3 hr3; clear h3 hk3 hr3; have d3 := T3.cell 1 (.int .i64 0) rfl; have f3 := T3.froz 1))
          have S3 := T3.set 1 (.int .i64 a)
          clear T3 d3 f3
          clear S2
          have dk := S3.cell 0 (.int .i64 k) rfl
          replace S3 : Rst ad rb sb g bs w q3 (opv (k, r, a, 0)) 63 _ := S3
          have S9i := S3.res.in
          go_wp2_with (first | (refine ld_op (a0 := (k, r, a, 0)) rfl _ rfl rfl S9i ?_) | (refine wpList_store_row rfl _ _ _ rfl _ _ rfl rfl _ _ S3.res (opv_size (k, r, a, 0)) rfl (opv_one (k, r, a, 0)) ?_))
          refine bodyPost_ret (results_cell_row (fn := Tryd.f75) (p := 2) rfl _ _ _ _ _ _ _ rfl (setRow_heap _ _ _ _ _ _ S3.res) Tryd.underlying63 rfl (opv_size (k, r, a, 0))) rfl ?_
          exact RdV.mkOk (a := (k, r, a, 0)) (pSeq_ok H0.out (pSeq_ok H1.out (pSeq_ok H2.out (by rw [if_neg K1.out]; rfl)))) S3.row.kp S3.row.rd
end Go.Proofs.YtildmcmjpmidgaaDoor
