
/-
  A message is read: what all kinds share. A message of the kind 1 is read.
-/
import Derived.Test.YteffpnjgchihpaaGreatDoorPB36
import Derived.Test.YteffpnjgchihpaaGreatDoorPB30
namespace Go.Proofs.YteffpnjgchihpaaGreatDoor
open Go.RowKit
set_option maxRecDepth 100000

theorem mv_set0 (k k' f e : Int) (c : List Int) (A : List Pac) (R : List Prn) (s : Value) : (mv (k, f, e, c, A, R) s).setIfInBounds 0 (.int .i64 k') = mv (k', f, e, c, A, R) s := by
  simp only [mv, ml, List.setIfInBounds_toArray, List.set_cons_zero]
theorem mv_set1 (k f f' e : Int) (c : List Int) (A : List Pac) (R : List Prn) (s : Value) : (mv (k, f, e, c, A, R) s).setIfInBounds 1 (.int .i64 f') = mv (k, f', e, c, A, R) s := by
  simp only [mv, ml, List.setIfInBounds_toArray, List.set_cons_succ, List.set_cons_zero]
theorem mv_set2 (k f e e' : Int) (c : List Int) (A : List Pac) (R : List Prn) (s : Value) : (mv (k, f, e, c, A, R) s).setIfInBounds 2 (.int .i64 e') = mv (k, f, e', c, A, R) s := by
  simp only [mv, ml, List.setIfInBounds_toArray, List.set_cons_succ, List.set_cons_zero]
theorem mv_sz {m : Pms} {s : Value} (h : shM m) : (mv m s).size = 156 := by simp [mv, ml_len h]
theorem shM0 (k f e : Int) : shM (k, f, e, zero8, [], zeroRs) := ⟨rfl, fun a ha => (by simp at ha), zeroRs_sh⟩

/-- A message, and the end behind it. -/
def pMsgE (bs : List UInt8) (pl : Nat) : Except Pe (Pms × Nat) := match pMsg bs pl with
  | .error e => .error e
  | .ok (m, q) => match endR (bs.drop q) with
    | .error c => .error (.wire nmEnd q c)
    | .ok _ => .ok (m, q)
theorem msgE_err {bs : List UInt8} {pl : Nat} {x : Pe} (h : pMsg bs pl = .error x) : pMsgE bs pl = .error x := by unfold pMsgE; rw [h]
theorem msgE_end {bs : List UInt8} {pl q c : Nat} {m : Pms} (h : pMsg bs pl = .ok (m, q)) (h2 : endR (bs.drop q) = .error c) : pMsgE bs pl = .error (.wire nmEnd q c) := by unfold pMsgE; rw [h]; simp only [h2]
theorem msgE_ok {bs : List UInt8} {pl q : Nat} {m : Pms} {u : Unit × Nat} (h : pMsg bs pl = .ok (m, q)) (h2 : endR (bs.drop q) = .ok u) : pMsgE bs pl = .ok (m, q) := by unfold pMsgE; rw [h]; simp only [h2]
theorem okRnd_sh {r : Prn} (h : okRnd r) : shR r := by
  obtain ⟨_, h2⟩ := h
  by_cases h0 : r.1 = 0
  · rw [if_pos h0] at h2
    have e1 : r.2.1 = zero8 := by rw [h2]
    have e2 : r.2.2.1 = zero8 := by rw [h2]
    exact ⟨by rw [e1]; rfl, by rw [e2]; rfl⟩
  · rw [if_neg h0] at h2
    exact ⟨h2.1.1, h2.2.1.1⟩
theorem okMsg_sh {m : Pms} (h : okMsg m) : shM m := by
  obtain ⟨_, _, _, h4, h5, h6⟩ := h
  refine ⟨?_, ?_, ?_⟩
  · split at h4
    · exact h4.1
    · rw [h4]; rfl
  · split at h5
    · exact fun a ha => (h5.2 a ha).2.2.1
    · rw [h5]; exact fun a ha => (by simp at ha)
  · split at h6
    · exact ⟨h6.1, fun r hr => okRnd_sh (h6.2 r hr)⟩
    · rw [h6]; exact zeroRs_sh

/-- What a reading of a message leaves. -/
def RdM (ad : Nat → Addr) (rb g : Nat) (bs : List UInt8) (w : World) (p : Except Pe (Pms × Nat)) (e : Ending) (w' : World) : Prop := Kept [rb] w w' ∧ match p with
  | .ok (m, q) => ∃ s, e = .returned (.agg (mv m s)) ∧ RdAt rb g bs q .nilIface w' ∧ OwnA w.heap.size s m.2.2.2.2.1 w' ∧ shM m
  | .error x => ∃ f, w.heap.size ≤ f ∧ e = gaveP f ∧ PeAt ad x f w'
theorem RdM.ok {ad : Nat → Addr} {rb g : Nat} {bs : List UInt8} {w : World} {p : Except Pe (Pms × Nat)} {e : Ending} {w' : World} {m : Pms} {q : Nat} (h : RdM ad rb g bs w p e w') (hp : p = .ok (m, q)) : Kept [rb] w w' ∧ ∃ s, e = .returned (.agg (mv m s)) ∧ RdAt rb g bs q .nilIface w' ∧ OwnA w.heap.size s m.2.2.2.2.1 w' ∧ shM m := by subst hp; exact h
theorem RdM.err {ad : Nat → Addr} {rb g : Nat} {bs : List UInt8} {w : World} {p : Except Pe (Pms × Nat)} {e : Ending} {w' : World} {x : Pe} (h : RdM ad rb g bs w p e w') (hp : p = .error x) : Kept [rb] w w' ∧ ∃ f, w.heap.size ≤ f ∧ e = gaveP f ∧ PeAt ad x f w' := by subst hp; exact h
theorem RdM.mkErr {ad : Nat → Addr} {rb g : Nat} {bs : List UInt8} {w : World} {p : Except Pe (Pms × Nat)} {w' : World} {x : Pe} {f : Nat} (hp : p = .error x) (hk : Kept [rb] w w') (hf : w.heap.size ≤ f) (hx : PeAt ad x f w') : RdM ad rb g bs w p (gaveP f) w' := by subst hp; exact ⟨hk, f, hf, rfl, hx⟩
theorem RdM.mkOk {ad : Nat → Addr} {rb g : Nat} {bs : List UInt8} {w : World} {p : Except Pe (Pms × Nat)} {w' : World} {m : Pms} {q : Nat} {s : Value} (hp : p = .ok (m, q)) (hk : Kept [rb] w w') (hr : RdAt rb g bs q .nilIface w') (ho : OwnA w.heap.size s m.2.2.2.2.1 w') (hs : shM m) : RdM ad rb g bs w p (.returned (.agg (mv m s))) w' := by subst hp; exact ⟨hk, s, rfl, hr, ho, hs⟩

theorem kept_setRow (g : Nat) (cs : Array Value) (w : World) : Kept [g] w (w.setRow g cs) := ⟨rfl, rfl, rfl, by simp, fun k _ hn => setRow_other _ _ _ _ (by simpa using hn)⟩
theorem zero_ms' : (Tryz.prog.info? 31).bind (·.zero) = some (.agg (mv (0, 0, 0, zero8, [], zeroRs) (.slice none 0 0))) := zero_ms
end Go.Proofs.YteffpnjgchihpaaGreatDoor
namespace Go.Proofs.YteffpnjgchihpaaGreatDoor
open Go.RowKit
set_option maxRecDepth 100000

set_option maxHeartbeats 8000000 in
theorem msg1_rd {ad : Nat → Addr} {rb sb g : Nat} {bs : List UInt8} {pl q1 q2 q3 : Nat} {f_ e_ : Int} {w : World} (L : Lw ad w) (h : RdAt rb g bs pl .nilIface w) (hs : SdAt sb rb w) (p0 : pKind 4 bs pl = .ok (1, q1)) (p1 : pNum 7 bs q1 = .ok (f_, q2)) (p2 : pNum mx63 bs q2 = .ok (e_, q3)) :
    Calls Tryz.prog 58 #[rgv sb] w (RdM ad rb g bs w (pMsg bs pl)) := by
  have S0 := Rst.start L h hs (mv (0, 0, 0, zero8, [], zeroRs) (.slice none 0 0)) 31
  have hz : (Tryz.prog.info? 31).bind (·.zero) = some (.agg (mv (0, 0, 0, zero8, [], zeroRs) (.slice none 0 0))) := zero_ms'
  have H0 := hid_of' p0
  have H1 := hid_of' p1
  have H2 := hid_of' p2
  have HMe := hid_of' (fun x (hb : pBody 1 bs q3 = .error x) => (pSeq_err2 p0 (pSeq_err2 p1 (pSeq_err2 p2 hb)) : pMsg bs pl = .error x))
  have HMo := hid_of' (fun y q (hb : pBody 1 bs q3 = .ok (y, q)) => (pSeq_ok p0 (pSeq_ok p1 (pSeq_ok p2 hb)) : pMsg bs pl = .ok ((1, f_, e_, y), q)))
  clear L h hs p0 p1 p2
  cases p3 : pActs bs q3 with
  | error x =>
    have H3 := hid_of' p3
    have HM := hid_of' (HMe.out x (pSeq_err2 (a := zero8) (k := q3) rfl (pSeq_err (by rw [if_pos (.inl rfl)]; exact p3))))
    clear p3
    go_enter Tryz.func58, Tryz.ntmps58
    go_upto_region 1 with (refine wpL_alloc rfl _ rfl hz ?_)
    go_simp
    go_upto_region 2 with (first | (go_at_call 72; have hh := kind_rd S0.lw S0.rd S0.sd 4; (with_reducible refine hh.mono ?_); clear hh; intro e w1 h1; obtain ⟨hk1, rfl, hr1⟩ := h1.ok H0.out; have T1 := S0.go hk1 hr1; clear h1 hk1 hr1; have d1 := T1.cell 0 (.int .i64 0) rfl; have f1 := T1.froz 0))
    have S1 := T1.set 0 (.int .i64 1)
    rw [mv_set0] at S1
    clear T1 d1 f1
    clear S0
    go_upto_region 3 with (first | (go_at_call 73; have hh := number_rd S1.lw S1.rd S1.sd 7; (with_reducible refine hh.mono ?_); clear hh; intro e w2 h2; obtain ⟨hk2, rfl, hr2⟩ := h2.ok H1.out; have T2 := S1.go hk2 hr2; clear h2 hk2 hr2; have d2 := T2.cell 1 (.int .i64 0) rfl; have f2 := T2.froz 1))
    have S2 := T2.set 1 (.int .i64 f_)
    rw [mv_set1] at S2
    clear T2 d2 f2
    clear S1
    go_upto_region 4 with (first | (go_at_call 73; have hh := number_rd S2.lw S2.rd S2.sd 9223372036854775807; (with_reducible refine hh.mono ?_); clear hh; intro e w3 h3; obtain ⟨hk3, rfl, hr3⟩ := h3.ok H2.out; have T3 := S2.go hk3 hr3; clear h3 hk3 hr3; have d3 := T3.cell 2 (.int .i64 0) rfl; have f3 := T3.froz 2))
    have S3 := T3.set 2 (.int .i64 e_)
    rw [mv_set2] at S3
    clear T3 d3 f3
    clear S2
    have dk := S3.cell 0 (.int .i64 1) rfl
    go_wp2_with (first | (go_at_call 74; have hh := acts_rd S3.lw S3.rd S3.sd; (with_reducible refine hh.mono ?_); clear hh; intro e w4 h4; obtain ⟨hk4, f, hf, rfl, hp⟩ := h4.err H3.out))
    exact ⟨rfl, RdM.mkErr (HM.out) (S3.kp.trans hk4) (by have := S3.kp.size; omega) hp⟩
  | ok y =>
    obtain ⟨A, q4⟩ := y
    have H3 := hid_of' p3
    have HM := hid_of' (HMo.out (zero8, A, zeroRs) q4 (pSeq_ok (a := zero8) (k := q3) rfl (pSeq_ok (a := A) (k := q4) (by rw [if_pos (.inl rfl)]; exact p3) rfl)))
    clear p3 HMe HMo
    go_enter Tryz.func58, Tryz.ntmps58
    go_upto_region 1 with (refine wpL_alloc rfl _ rfl hz ?_)
    go_simp
    go_upto_region 2 with (first | (go_at_call 72; have hh := kind_rd S0.lw S0.rd S0.sd 4; (with_reducible refine hh.mono ?_); clear hh; intro e w1 h1; obtain ⟨hk1, rfl, hr1⟩ := h1.ok H0.out; have T1 := S0.go hk1 hr1; clear h1 hk1 hr1; have d1 := T1.cell 0 (.int .i64 0) rfl; have f1 := T1.froz 0))
    have S1 := T1.set 0 (.int .i64 1)
    rw [mv_set0] at S1
    clear T1 d1 f1
    clear S0
    go_upto_region 3 with (first | (go_at_call 73; have hh := number_rd S1.lw S1.rd S1.sd 7; (with_reducible refine hh.mono ?_); clear hh; intro e w2 h2; obtain ⟨hk2, rfl, hr2⟩ := h2.ok H1.out; have T2 := S1.go hk2 hr2; clear h2 hk2 hr2; have d2 := T2.cell 1 (.int .i64 0) rfl; have f2 := T2.froz 1))
    have S2 := T2.set 1 (.int .i64 f_)
    rw [mv_set1] at S2
    clear T2 d2 f2
    clear S1
    go_upto_region 4 with (first | (go_at_call 73; have hh := number_rd S2.lw S2.rd S2.sd 9223372036854775807; (with_reducible refine hh.mono ?_); clear hh; intro e w3 h3; obtain ⟨hk3, rfl, hr3⟩ := h3.ok H2.out; have T3 := S2.go hk3 hr3; clear h3 hk3 hr3; have d3 := T3.cell 2 (.int .i64 0) rfl; have f3 := T3.froz 2))
    have S3 := T3.set 2 (.int .i64 e_)
    rw [mv_set2] at S3
    clear T3 d3 f3
    clear S2
    have dk := S3.cell 0 (.int .i64 1) rfl
    go_upto_region 13 with (first | (go_at_call 74; have hh := acts_rd S3.lw S3.rd S3.sd; (with_reducible refine hh.mono ?_); clear hh; intro e w4 h4; obtain ⟨hk4, sv, rfl, hr4, hO0, hsA⟩ := h4.ok H3.out; obtain ⟨sa, sc, rfl⟩ := hO0.form; have T4 := S3.go hk4 hr4; have hO1 := hO0.mono (B' := w.heap.size + 1) S3.res.lt; clear h4 hk4 hr4 hO0; have d4 := T4.cell 11 (.slice none 0 0) (mv_a _ (shM0 _ _ _)); have f4 := T4.froz 11))
    have S4 := T4.set 11 (.slice sa A.length sc)
    rw [mv_setA (shM0 _ _ _)] at S4
    have hO : OwnA (w.heap.size + 1) (.slice sa A.length sc) A (w4.setCell ⟨w.heap.size, 11, none⟩ (.slice sa A.length sc)) := hO1.kept (S := [w.heap.size]) ((Kept.refl _ _).set (p := ⟨w.heap.size, 11, none⟩) (.inl (by simp)) _) (by simp)
    clear T4 d4 f4 hO1 S3 dk
    generalize w4.setCell ⟨w.heap.size, 11, none⟩ (.slice sa A.length sc) = y4 at S4 hO ⊢
    have S9i := S4.res.in
    have hsm : shM (1, f_, e_, zero8, A, zeroRs) := okMsg_sh ((fits_msg.sound _ _ _ _ HM.out).1)
    go_wp2_with (first | (refine ld_ms hsm rfl _ rfl rfl S9i ?_) | (refine wpList_store_row rfl _ _ _ rfl _ _ rfl rfl _ _ S4.res (mv_size hsm) rfl (mv_one _ rfl) ?_))
    refine bodyPost_ret (results_cell_row (fn := Tryz.f58) (p := 2) rfl _ _ _ _ _ _ _ rfl (setRow_heap _ _ _ _ _ _ S4.res) Tryz.underlying31 rfl (mv_size hsm)) rfl ?_
    exact RdM.mkOk (m := (1, f_, e_, zero8, A, zeroRs)) HM.out S4.row.kp S4.row.rd ((hO.kept (kept_setRow (w.heap.size) (mv (1, f_, e_, zero8, A, zeroRs) (.slice sa A.length sc)) _) (by simp)).mono (B' := w.heap.size) (by omega)) hsm
end Go.Proofs.YteffpnjgchihpaaGreatDoor
