
/-
  Rounds and acts are read, one behind the other. Acts are read.
-/
import Derived.Test.YteffpnjgchihpaaGreatDoorPB35
namespace Go.Proofs.YteffpnjgchihpaaGreatDoor
open Go.RowKit
set_option maxRecDepth 100000

theorem rsl_app (a b : List Prn) : rsl (a ++ b) = rsl a ++ rsl b := by simp [rsl]
theorem rsv_put {l : List Prn} (hs : ∀ r ∈ l, shR r) {k : Nat} {x r : Prn} (hx : l[k]? = some x) (hr : shR r) : putA (rsv l) (k * 18) (rnv r).toList = rsv (l.set k r) := by
  have hk := (List.getElem?_eq_some_iff.1 hx).1
  have hsp : l = l.take k ++ (x :: l.drop (k + 1)) := by
    have := (List.getElem?_eq_some_iff.1 hx).2
    rw [← this, List.getElem_cons_drop, List.take_append_drop]
  have hset : l.set k r = l.take k ++ (r :: l.drop (k + 1)) := by
    conv => lhs; rw [hsp]
    have e1 : (l.take k).length = k := by rw [List.length_take]; omega
    rw [List.set_append_right _ _ (by omega), e1, Nat.sub_self, List.set_cons_zero]
  have e0 : rsl l = rsl (l.take k) ++ (rnl x ++ rsl (l.drop (k + 1))) := by
    conv => lhs; rw [hsp]
    rw [rsl_app]; simp [rsl]
  have e2 : rsl (l.set k r) = rsl (l.take k) ++ (rnl r ++ rsl (l.drop (k + 1))) := by
    rw [hset, rsl_app]; simp [rsl]
  have e3 : (rsl (l.take k)).length = k * 18 := by
    rw [rsl_len _ (fun r hr => hs r (List.mem_of_mem_take hr)), List.length_take]
    congr 1; omega
  have h := putA_list (rnl r) (rnl x) (rsl (l.take k)) (rsl (l.drop (k + 1))) (by rw [rnl_len hr, rnl_len (hs x (List.mem_of_getElem? hx))])
  rw [e3] at h
  unfold rsv
  rw [e0, e2]
  exact h
theorem pRnd_sh {last : Bool} {bs : List UInt8} {pl q : Nat} {r : Prn} (h : pRnd last bs pl = .ok (r, q)) : shR r := by
  obtain ⟨⟨_, h2⟩, _⟩ := ((fits_rnd last).sound _ _ _ _ h).1
  by_cases h0 : r.1 = 0
  · rw [if_pos h0] at h2
    have e1 : r.2.1 = zero8 := by rw [h2]
    have e2 : r.2.2.1 = zero8 := by rw [h2]
    exact ⟨by rw [e1]; rfl, by rw [e2]; rfl⟩
  · rw [if_neg h0] at h2
    exact ⟨h2.1.1, h2.2.1.1⟩
theorem pad_sh {pre : List Prn} (h : ∀ r ∈ pre, shR r) : ∀ r ∈ pad8 zeroR pre, shR r := fun r hr => by
  simp only [pad8, List.mem_append, List.mem_replicate] at hr
  rcases hr with hr | hr
  · exact h r hr
  · rw [hr.2]; exact zeroR_sh
theorem pad_at {α : Type} (z : α) {pre : List α} (h : pre.length < 8) : (pad8 z pre)[pre.length]? = some z := by
  unfold pad8
  rw [List.getElem?_append_right (Nat.le_refl _), Nat.sub_self, List.getElem?_replicate, if_pos (by omega)]

set_option maxHeartbeats 4000000 in
theorem rounds_rd {ad : Nat → Addr} {rb sb g : Nat} {bs : List UInt8} {pl : Nat} {w : World} (L : Lw ad w) (h : RdAt rb g bs pl .nilIface w) (hs : SdAt sb rb w) :
    Calls Tryz.prog 76 #[rgv sb] w (RdV ad rb g bs w (fun l => .agg (rsv l)) (pRnds bs pl)) := by
  have S0 := Rst.start L h hs (rsv (pad8 zeroR [])) 29
  have hz : (Tryz.prog.info? 29).bind (·.zero) = some (.agg (rsv (pad8 zeroR []))) := zero_rnds
  have hP : pRnds bs pl = pRowG zeroR pRnd bs pl := rfl
  rw [hP]
  clear L h hs hP
  cases p0 : pNum 8 bs pl with
  | error x =>
    have H0 := hid_of' p0
    clear p0
    go_enter Tryz.func76, Tryz.ntmps76
    go_upto_region 1 with (refine wpL_alloc rfl _ rfl hz ?_)
    go_simp
    go_wp2_with (first | (go_at_call 73; have hh := number_rd S0.lw S0.rd S0.sd 8; (with_reducible refine hh.mono ?_); clear hh; intro e w1 h1; obtain ⟨hk1, f, hf, rfl, hp⟩ := h1.err H0.out))
    exact ⟨rfl, RdV.mkErr (rowG_err H0.out) (S0.kp.trans hk1) (by have := S0.kp.size; omega) hp⟩
  | ok y =>
    obtain ⟨n', q0⟩ := y
    obtain ⟨n, rfl, hn8⟩ := pNum_bnd p0
    have H0 := hid_of' p0
    clear p0
    go_enter Tryz.func76, Tryz.ntmps76
    go_upto_region 1 with (refine wpL_alloc rfl _ rfl hz ?_)
    go_simp
    clear hz
    go_upto_region 2 with (first | (go_at_call 73; have hh := number_rd S0.lw S0.rd S0.sd 8; (with_reducible refine hh.mono ?_); clear hh; intro e w1 h1; obtain ⟨hk1, rfl, hr1⟩ := h1.ok H0.out; have S1 := S0.go hk1 hr1; clear h1 hk1 hr1))
    clear S0
    go_wp2
    go_loopw [8] (fun i wr => ∃ (k q : Nat) (pre : List Prn), i = .int .i64 (k : Int) ∧ k ≤ n ∧ pre.length = k ∧ Rst ad rb sb g bs w q (rsv (pad8 zeroR pre)) 29 wr ∧ Hid ((∀ r ∈ pre, shR r) ∧ pMany pRnd n bs q0 = pMap (fun l => pre ++ l) (pMany pRnd (n - k)) bs q)) (fun i _ => n - (intOf i).toNat)
    case atStart => exact ⟨0, q0, [], rfl, by omega, rfl, S1, by simp, many_start⟩
    case round =>
      clear S1
      obtain ⟨k, q, pre, rfl, hk, hpre, S1, HI⟩ := hrel
      by_cases hkn : k < n
      · have hki : (k : Int) < (n : Int) := by omega
        have hw1 : wrap64 ((n : Int) - 1) = (n : Int) - 1 := by unfold wrap64; omega
        have hw2 : wrap64 ((k : Int) + 1) = (k : Int) + 1 := by unfold wrap64; omega
        have hq1 : ((k : Int) == (n : Int) - 1) = (n - (k + 1) == 0) := by
          rw [Bool.eq_iff_iff, beq_iff_eq, beq_iff_eq]; omega
        have hk8 : k < 8 := by omega
        have hk8i : (k : Int) < 8 := by omega
        obtain ⟨last, hlast⟩ : ∃ b, (n - (k + 1) == 0) = b := ⟨_, rfl⟩
        rw [hlast] at hq1
        have HQ := hid_of' hlast
        clear hlast
        cases hr : pRnd last bs q with
        | error x =>
          have HX := hid_of' hr
          clear hr
          go_wp2_with (first | (go_at_call 94; have hh := round_rd S1.lw S1.rd S1.sd last; (with_reducible refine hh.mono ?_); clear hh; intro e w3 h3; obtain ⟨hk3, f, hf, rfl, hp⟩ := h3.err HX.out))
          exact ⟨rfl, RdV.mkErr (rowG_err2 H0.out (many_stop hkn HI.out.2 (by rw [HQ.out]; exact HX.out))) (S1.kp.trans hk3) (by have := S1.kp.size; omega) hp⟩
        | ok y =>
          obtain ⟨r, q1⟩ := y
          have hrs := pRnd_sh hr
          have HX := hid_of' hr
          clear hr
          have HZ := hid_of' (show (rsv (pad8 zeroR pre)).size = 144 by simp [rsv, rsl_len _ (pad_sh HI.out.1), pad_len zeroR (pre := pre) (by omega)])
          go_upto_region 6 with (first | (go_at_call 94; have hh := round_rd S1.lw S1.rd S1.sd last; (with_reducible refine hh.mono ?_); clear hh; intro e w3 h3; obtain ⟨hk3, rfl, hr3⟩ := h3.ok HX.out; have T1 := S1.go hk3 hr3; clear h3 hk3 hr3) | (refine wpList_store_mid rfl _ _ _ rfl _ _ _ rfl rfl (by rw [rnv_sz hrs]; exact T1.there (by rw [HZ.out]; omega)) (rnv_size hrs) (rnv_one r) ?_))
          try simp only [Act.put]
          have S2 := T1.sets (k * 18) (rnv r).toList
          have hset := pad_set zeroR (pre := pre) (by omega) r
          rw [rsv_put (pad_sh HI.out.1) (k := k) (x := zeroR) (by rw [← hpre]; exact pad_at zeroR (by omega)) hrs, ← hpre, hset, hpre] at S2
          clear hset T1
          generalize w3.setCells (w.heap.size) (k * 18) (rnv r).toList = x3 at S2 ⊢
          go_wp2
          go_roundw
          case rel => exact ⟨k + 1, q1, pre ++ [r], by go_num, by omega, by simp [hpre], S2, fun r' hr' => by
            simp only [List.mem_append, List.mem_singleton] at hr'
            rcases hr' with h | rfl
            · exact HI.out.1 r' h
            · exact hrs, many_step hkn HI.out.2 (by rw [HQ.out]; exact HX.out)⟩
          case measure => simp [intOf]; omega
      · have hki : ¬ (k : Int) < (n : Int) := by omega
        obtain rfl : k = n := by omega
        have hps : shRs (pad8 zeroR pre) := ⟨pad_len zeroR (by omega), pad_sh HI.out.1⟩
        have S9i := S1.res.in
        go_wp2_with (first | (refine ld_rnds hps rfl _ rfl rfl S9i ?_) | (refine wpList_store_row rfl _ _ _ rfl _ _ rfl rfl _ _ S1.res (rsv_size hps) rfl (rsv_one _) ?_))
        refine bodyPost_ret (results_cell_row (fn := Tryz.f76) (p := 2) rfl _ _ _ _ _ _ _ rfl (setRow_heap _ _ _ _ _ _ S1.res) Tryz.underlying29 rfl (rsv_size hps)) rfl ?_
        exact RdV.mkOk (rowG_ok H0.out (many_end HI.out.2)) S1.row.kp S1.row.rd
end Go.Proofs.YteffpnjgchihpaaGreatDoor
namespace Go.Proofs.YteffpnjgchihpaaGreatDoor
open Go.RowKit
set_option maxRecDepth 100000

theorem times_err {α : Type} {p : Prs α} {k : Nat} {bs : List UInt8} {q : Nat} {x : Pe} (h : p bs q = .error x) : pTimes p (k + 1) bs q = .error x := pMap_err (pSeq_err h)
theorem times_ok {α : Type} {p : Prs α} {k : Nat} {bs : List UInt8} {q q1 : Nat} {a : α} (h : p bs q = .ok (a, q1)) : pTimes p (k + 1) bs q = pMap (fun l => a :: l) (pTimes p k) bs q1 := by
  show pMap _ (pSeq _ _) bs q = _
  cases h2 : pTimes p k bs q1 with
  | error x => rw [pMap_err (pSeq_err2 h h2), pMap_err h2]
  | ok y => rw [pMap_ok (pSeq_ok h (b := y.1) (k2 := y.2) h2), pMap_ok (a := y.1) (k := y.2) h2]
theorem times_step {α : Type} {p : Prs α} {n k : Nat} {bs : List UInt8} {q0 q q1 : Nat} {pre : List α} {a : α} (hk : k < n) (h : pTimes p n bs q0 = pMap (fun l => pre ++ l) (pTimes p (n - k)) bs q) (ha : p bs q = .ok (a, q1)) : pTimes p n bs q0 = pMap (fun l => (pre ++ [a]) ++ l) (pTimes p (n - (k + 1))) bs q1 := by
  have e : n - k = n - (k + 1) + 1 := by omega
  rw [h, e, map_congr _ (p' := pMap (fun l => a :: l) (pTimes p (n - (k + 1)))) (q' := q1) (times_ok ha), map_map]
  simp only [List.append_assoc, List.singleton_append]
theorem times_stop {α : Type} {p : Prs α} {n k : Nat} {bs : List UInt8} {q0 q : Nat} {pre : List α} {x : Pe} (hk : k < n) (h : pTimes p n bs q0 = pMap (fun l => pre ++ l) (pTimes p (n - k)) bs q) (ha : p bs q = .error x) : pTimes p n bs q0 = .error x := by
  have e : n - k = n - (k + 1) + 1 := by omega
  rw [h, e]
  exact pMap_err (times_err ha)
theorem times_end {α : Type} {p : Prs α} {n : Nat} {bs : List UInt8} {q0 q : Nat} {pre : List α} (h : pTimes p n bs q0 = pMap (fun l => pre ++ l) (pTimes p (n - n)) bs q) : pTimes p n bs q0 = .ok (pre, q) := by
  rw [h, Nat.sub_self]
  show pMap _ (pPure []) bs q = _
  rw [pMap_ok (a := []) (k := q) rfl, List.append_nil]
theorem times_start {α : Type} {p : Prs α} {n : Nat} {bs : List UInt8} {q0 : Nat} : pTimes p n bs q0 = pMap (fun l => [] ++ l) (pTimes p (n - 0)) bs q0 := by
  rw [Nat.sub_zero]
  cases h : pTimes p n bs q0 with
  | error x => rw [pMap_err h]
  | ok y => rw [pMap_ok (a := y.1) (k := y.2) h]; rfl
theorem pCnt_ok {bs : List UInt8} {pl n k : Nat} (h : cntR (bs.drop pl) 4 2147483647 = .ok (n, k)) : pCnt bs pl = .ok ((n : Int), pl + k) := by unfold pCnt; rw [h]
theorem pCnt_err {bs : List UInt8} {pl c : Nat} (h : cntR (bs.drop pl) 4 2147483647 = .error c) : pCnt bs pl = .error (.wire nmCount pl c) := by unfold pCnt; rw [h]
theorem cntR_le {bs : List UInt8} {n k : Nat} (h : cntR bs 4 2147483647 = .ok (n, k)) : n ≤ bs.length := by
  unfold cntR at h
  cases hn : numR bs 2147483647 with
  | error c => rw [hn] at h; cases h
  | ok y =>
    rw [hn] at h
    simp only at h
    by_cases hlt : ((bs.length - y.2 : Nat) : Int) / (if (4 : Int) < 1 then 1 else 4) < (y.1 : Int)
    · rw [if_pos hlt] at h; cases h
    · rw [if_neg hlt] at h
      obtain ⟨a, b⟩ := y
      simp only [Except.ok.injEq, Prod.mk.injEq] at h
      simp only [show ¬ ((4 : Int) < 1) by decide, if_false] at hlt
      omega
theorem pAct_sh {bs : List UInt8} {pl q : Nat} {a : Pac} (h : pAct bs pl = .ok (a, q)) : shA a := (fits_act.sound _ _ _ _ h).1.2.2.1

/-- What a reading of acts leaves. -/
def RdA (ad : Nat → Addr) (rb g : Nat) (bs : List UInt8) (w : World) (p : Except Pe (List Pac × Nat)) (e : Ending) (w' : World) : Prop := Kept [rb] w w' ∧ match p with
  | .ok (l, q) => ∃ v, e = .returned v ∧ RdAt rb g bs q .nilIface w' ∧ OwnA w.heap.size v l w' ∧ (∀ a ∈ l, shA a)
  | .error x => ∃ f, w.heap.size ≤ f ∧ e = gaveP f ∧ PeAt ad x f w'
theorem RdA.ok {ad : Nat → Addr} {rb g : Nat} {bs : List UInt8} {w : World} {p : Except Pe (List Pac × Nat)} {e : Ending} {w' : World} {l : List Pac} {q : Nat} (h : RdA ad rb g bs w p e w') (hp : p = .ok (l, q)) : Kept [rb] w w' ∧ ∃ v, e = .returned v ∧ RdAt rb g bs q .nilIface w' ∧ OwnA w.heap.size v l w' ∧ (∀ a ∈ l, shA a) := by subst hp; exact h
theorem RdA.err {ad : Nat → Addr} {rb g : Nat} {bs : List UInt8} {w : World} {p : Except Pe (List Pac × Nat)} {e : Ending} {w' : World} {x : Pe} (h : RdA ad rb g bs w p e w') (hp : p = .error x) : Kept [rb] w w' ∧ ∃ f, w.heap.size ≤ f ∧ e = gaveP f ∧ PeAt ad x f w' := by subst hp; exact h
theorem RdA.mkOk {ad : Nat → Addr} {rb g : Nat} {bs : List UInt8} {w : World} {p : Except Pe (List Pac × Nat)} {w' : World} {l : List Pac} {q : Nat} {v : Value} (hp : p = .ok (l, q)) (hk : Kept [rb] w w') (hr : RdAt rb g bs q .nilIface w') (ho : OwnA w.heap.size v l w') (hs : ∀ a ∈ l, shA a) : RdA ad rb g bs w p (.returned v) w' := by subst hp; exact ⟨hk, v, rfl, hr, ho, hs⟩
theorem RdA.mkErr {ad : Nat → Addr} {rb g : Nat} {bs : List UInt8} {w : World} {p : Except Pe (List Pac × Nat)} {w' : World} {x : Pe} {f : Nat} (hp : p = .error x) (hk : Kept [rb] w w') (hf : w.heap.size ≤ f) (hx : PeAt ad x f w') : RdA ad rb g bs w p (gaveP f) w' := by subst hp; exact ⟨hk, f, hf, rfl, hx⟩
theorem OwnA.mono {B B' : Nat} {v : Value} {l : List Pac} {w : World} (h : OwnA B v l w) (hB : B' ≤ B) : OwnA B' v l w := by
  unfold OwnA at h ⊢
  rcases h.2 with ⟨rfl, hn⟩ | ⟨g, cap, cur, rfl, hb, rest⟩
  · exact ⟨h.1, .inl ⟨rfl, hn⟩⟩
  · exact ⟨h.1, .inr ⟨g, cap, cur, rfl, by omega, rest⟩⟩
theorem Lw.below {ad : Nat → Addr} {B : Nat} {w w' : World} (L : Lw ad w) (hb : Below B w w') (hB : 8 ≤ B) : Lw ad w' :=
  ⟨fun k hk => by rw [World.cell?_of_block (w := w) (hb.block (gixW k) (by have := gixW_lt k hk; omega))]; exact L.var k hk, Nat.le_trans L.size hb.size⟩
theorem kept_grown {B : Nat} {S : List Nat} {v : Value} {l : List Pac} {a w w' : World} (h : Kept S a w) (ho : OwnA B v l w) (hg : w.grownBy w' v.ownBlock) (hB : a.heap.size ≤ B) : Kept S a w' :=
  h.grown hg (fun k hk => .inr (by have := (ho.lt k hk).1; omega))

set_option maxHeartbeats 4000000 in
theorem list_rd {ad : Nat → Addr} {rb sb g : Nat} {bs : List UInt8} {pl : Nat} {w : World} (L : Lw ad w) (h : RdAt rb g bs pl .nilIface w) (hs : SdAt sb rb w) :
    Calls Tryz.prog 91 #[rgv sb, .int .i64 4, .func (.func 92) #[] #[]] w (RdA ad rb g bs w (pActs bs pl)) := by
  obtain ⟨L1, h1, r1, k1, hne⟩ := rd_sd L h hs
  clear hs
  have hlt := lt_of_heap h.lies
  have hgt := lt_of_heap h.raw
  have hlim := h.lim
  have HN := hid_of' (Count_any L1 h1 4 2147483647 (by decide) (by decide))
  have HL := hid_of' (And.intro L1 h1)
  have c1 := r1.c2
  have hsl := r1.lt
  have hP : pActs bs pl = pMap (fun x => x.2) (pSeq pCnt fun n => pTimes pAct n.toNat) bs pl := rfl
  rw [hP]
  clear L h h1 L1 hP
  cases hr : cntR (bs.drop pl) 4 2147483647 with
  | error c =>
    have hr' : (cntR (bs.drop pl) 4 2147483647).map (fun x => (Value.int .i64 x.1, x.2)) = .error c := by rw [hr]; rfl
    have HR := hid_of' (And.intro hr' (pCnt_err hr))
    clear hr hr'
    go_enter Tryz.func91, Tryz.ntmps91
    go_upto_region 2 with (go_at_call 105; refine HN.out.mono ?_; intro e w2 h2; obtain ⟨f2, hf2, rfl, hr2, hl2, hk2⟩ := rdOut_err h2 HR.out.1)
    replace r1 := r1.rd hk2 hne
    replace k1 := k1.trans hk2
    clear h2 c1 HN hk2
    go_wp2_with (first | (go_at_call 70; refine (checkP_err hr2 r1 f2 _ c hl2).mono ?_; rintro e w3 ⟨f, hf, rfl, hp, hk3⟩))
    exact ⟨rfl, RdA.mkErr (pMap_err (pSeq_err HR.out.2)) (k1.go hk3 (by simp)) (by have := k1.size; omega) hp⟩
  | ok y =>
    obtain ⟨n, kk⟩ := y
    have hn6 : n ≤ 1000000 := by have := cntR_le hr; rw [List.length_drop] at this; omega
    have hr' : (cntR (bs.drop pl) 4 2147483647).map (fun x => (Value.int .i64 x.1, x.2)) = .ok (.int .i64 n, kk) := by rw [hr]; rfl
    have HR := hid_of' (And.intro hr' (pCnt_ok hr))
    clear hr hr'
    go_enter Tryz.func91, Tryz.ntmps91
    go_upto_region 2 with (go_at_call 105; refine HN.out.mono ?_; intro e w2 h2; obtain ⟨rfl, hr2, hk2⟩ := rdOut_ok h2 HR.out.1)
    replace r1 := r1.rd hk2 hne
    replace k1 := k1.trans hk2
    have L2 := HL.out.1.rd hk2 HL.out.2
    clear h2 c1 HN hk2 HL
    have k1s := k1.size
    go_upto_region 3 with (first | (go_at_call 70; refine (checkP_nil _).mono ?_; rintro e w3 ⟨rfl, rfl⟩))
    have hs0 := k1s
    generalize hq0 : pl + kk = q0 at *
    clear hq0
    go_wp2
    go_loopw [6, 22] (fun v i wr => ∃ (k q : Nat) (pre : List Pac), i = .int .i64 (k : Int) ∧ k ≤ n ∧ pre.length = k ∧ RdAt rb g bs q .nilIface wr ∧ Kept [rb] w wr ∧ SdAt sb rb wr ∧ Lw ad wr ∧ OwnA w.heap.size v pre wr ∧ w.heap.size ≤ wr.heap.size ∧ Hid ((∀ a ∈ pre, shA a) ∧ pTimes pAct n bs q0 = pMap (fun l => pre ++ l) (pTimes pAct (n - k)) bs q)) (fun _ i _ => n - (intOf i).toNat)
    case atStart => exact ⟨0, q0, [], rfl, by omega, rfl, hr2, k1, r1, L2, ⟨rfl, .inl ⟨rfl, rfl⟩⟩, hs0, by simp, times_start⟩
    case round =>
      clear hr2 k1 r1 L2 hs0 k1s
      obtain ⟨k, q, pre, rfl, hk, hpre, hr2, k1, r1, L2, ho, hs0, HI⟩ := hrel
      obtain ⟨va, vc, rfl⟩ := ho.form
      have HPr := hid_of' hpre
      clear hpre
      by_cases hkn : k < n
      · have hki : (k : Int) < (n : Int) := by omega
        have hw2 : wrap64 ((k : Int) + 1) = (k : Int) + 1 := by unfold wrap64; omega
        have HA := hid_of' (act_rd L2 hr2 r1)
        cases hr : pAct bs q with
        | error x =>
          have HX := hid_of' hr
          clear hr
          go_wp2_with (first | (go_at_call 92; (with_reducible refine HA.out.mono ?_); intro e w3 h3; obtain ⟨hk3, f, hf, rfl, hp⟩ := h3.err HX.out))
          exact ⟨rfl, RdA.mkErr (pMap_err (pSeq_err2 HR.out.2 (times_stop hkn HI.out.2 HX.out))) (k1.trans hk3) (by have := k1.size; omega) hp⟩
        | ok y =>
          obtain ⟨a, q1⟩ := y
          have hsa := pAct_sh hr
          have HX := hid_of' hr
          clear hr
          go_upto_region 6 with (first | (go_at_call 92; (with_reducible refine HA.out.mono ?_); intro e w3 h3; obtain ⟨hk3, rfl, hr3⟩ := h3.ok HX.out; have ho3 := ho.kept hk3 (by simp; omega); have r3 := r1.rd hk3 hne; have L3 := L2.rd hk3 hr2; have k3 := k1.trans hk3; have ho4 : OwnA (w.heap.size) _ pre (w3.alloc (.cells (acv a) 60)) := ho3.kept (S := []) ((Kept.refl _ _).alloc _) (by simp); have hz3 := hk3.size) | (refine wpL_bs1 rfl _ rfl hsa rfl ?_) | (at_builtin; refine wpL_appA rfl _ _ rfl rfl rfl ho4 hsa (RowAt.new w3 (acv a) 60) (by have := HPr.out; omega) (by simp; omega) ?_; intro v5 w5 ho5 hg5))
          have ka : Kept [] w3 (w3.alloc (.cells (acv a) 60)) := (Kept.refl _ _).alloc _
          have hsa3 : w.heap.size ≤ (w3.alloc (.cells (acv a) 60)).heap.size := by simp; omega
          have hb5 : Below (w.heap.size) (w3.alloc (.cells (acv a) 60)) w5 := (Below.refl _ _).grown hg5 hsa3 (fun k hk => (ho4.lt k hk).1)
          have k5 : Kept [rb] w w5 := kept_grown (k3.go ka (by simp)) ho4 hg5 (by omega)
          have hr5 : RdAt rb g bs q1 .nilIface w5 := by
            have hx := hr3.kept ka (by simp) (by simp)
            exact ⟨by rw [hb5.block _ (by omega)]; exact hx.lies, by rw [hb5.block _ (by omega)]; exact hx.raw, hx.lo, hx.le, hx.lim⟩
          have r5 : SdAt sb rb w5 := RowAt.below (r3.kept ka (by simp)) hb5 hsl
          have L5 : Lw ad w5 := (L3.kept ka (by simp)).below hb5 (by have := hr3.lo; omega)
          have hs5 : w.heap.size ≤ w5.heap.size := Nat.le_trans hsa3 hb5.size
          clear h3 ka hk3 hr3 ho3 r3 L3 k3 ho4 hb5 hg5 hsa3 hz3 ho hr2 k1 r1 L2 HA
          go_wp2
          go_roundw
          case rel => exact ⟨k + 1, q1, pre ++ [a], by go_num, by omega, by rw [List.length_append, HPr.out]; rfl, hr5, k5, r5, L5, ho5, hs5, fun a' ha' => by
            simp only [List.mem_append, List.mem_singleton] at ha'
            rcases ha' with h | rfl
            · exact HI.out.1 a' h
            · exact hsa, times_step hkn HI.out.2 HX.out⟩
          case measure => simp [intOf]; omega
      · have hki : ¬ (k : Int) < (n : Int) := by omega
        obtain rfl : k = n := by omega
        go_wp2
        go_ret
        exact RdA.mkOk (pMap_ok (pSeq_ok HR.out.2 (times_end HI.out.2))) k1 hr2 ho HI.out.1
/-- Some acts. -/
theorem acts_rd {ad : Nat → Addr} {rb sb g : Nat} {bs : List UInt8} {pl : Nat} {w : World} (L : Lw ad w) (h : RdAt rb g bs pl .nilIface w) (hs : SdAt sb rb w) :
    Calls Tryz.prog 74 #[rgv sb] w (RdA ad rb g bs w (pActs bs pl)) := by
  have HN := hid_of' (list_rd L h hs)
  clear L h hs
  cases hr : pActs bs pl with
  | error x =>
    have HX := hid_of' hr
    clear hr
    go_enter Tryz.func74, Tryz.ntmps74
    go_wp2_with (go_at_call 91; refine HN.out.mono ?_; intro e w2 h2; obtain ⟨hk2, f, hf, rfl, hp⟩ := h2.err HX.out)
    exact ⟨rfl, RdA.mkErr rfl hk2 hf hp⟩
  | ok y =>
    obtain ⟨l, q⟩ := y
    have HX := hid_of' hr
    clear hr
    go_enter Tryz.func74, Tryz.ntmps74
    go_wp2_with (go_at_call 91; refine HN.out.mono ?_; intro e w2 h2; obtain ⟨hk2, v, rfl, hr2, ho, hsh⟩ := h2.ok HX.out; obtain ⟨va, vc, rfl⟩ := ho.form)
    go_ret
    exact RdA.mkOk rfl hk2 hr2 ho hsh
end Go.Proofs.YteffpnjgchihpaaGreatDoor
