
/-
  barrowlaw12.played: what holds at the end of a session.
-/
import Derived.Test.YtfgcljpiidhfpaaDoorFy3
import Derived.Test.YtfgcljpiidhfpaaDoorFl10
import Derived.Test.YtfgcljpiidhfpaaDoorFl17
import Derived.Test.YtfgcljpiidhfpaaDoorFlOp
import Derived.Test.YtfgcljpiidhfpaaDoorOnc0
import Derived.Deep.CutRange
import Derived.Deep.CutBlock
namespace Go.Proofs.YtfgcljpiidhfpaaDoor
open Go.RowKit
set_option maxRecDepth 100000

theorem goneR_stl {N : Nat} (h1 : 1 ≤ N) (h8 : N ≤ 8) {s c : Nat} {hv : List Int} {r : Rnd} : goneR (N : Int) s c hv r = stlR N s c hv r := by
  have hvd : ∀ y, verdI y (N : Int) = verdR y N := fun y => by
    unfold verdI
    rw [if_neg (by omega), show (min (N : Int) 8).toNat = N by omega]
  have hoy : openR (votedR s hv r) = openR r := by unfold votedR; split <;> rfl
  by_cases ho : openR r = false
  · have hv1 : votedR s hv r = r := if_neg (fun q => by rw [ho] at q; cases q.1)
    unfold goneR stlR
    rw [if_pos ho, hv1]
    split
    · exact (if_neg (by rw [ho]; decide)).symm
    · rfl
  · have ho' : openR r = true := by simpa using ho
    have hy : (if en r.vot s = 0 then { r with vot := r.vot.set s (voteR r.cut hv) } else r) = votedR s hv r := by
      unfold votedR
      by_cases h0 : en r.vot s = 0
      · rw [if_pos h0, if_pos ⟨ho', h0⟩]
      · rw [if_neg h0, if_neg (fun q => h0 q.2)]
    unfold goneR stlR
    rw [if_neg ho, hy]
    split
    · unfold decR
      rw [if_pos (hoy.trans ho'), hvd]
    · rfl
theorem mv_size (d0 d1 d2 d3 : Int) : (Tryd.prog.info? 97).map (·.size) = some (cv [d0, d1, d2, d3]).size := by rw [cv_size]; kernel_rfl
theorem zMove : (Tryd.prog.info? 97).bind (·.zero) = some (.agg (cv [0, 0, 0, 0])) := by kernel_rfl
theorem bldCk0 : Tryd.prog.built 42 [] = some (cv z8) := by kernel_rfl
theorem SlN.pos {n : Nat} {w : World} {v : Value} {L : List (List Int)} (h : SlN n w v L) (hp : 0 < L.length) : ∃ g o c, v = .slice (some ⟨g, o, none⟩) L.length c ∧ ∀ (k : Nat) (x : List Int), L[k]? = some x → CsIn g (o + k * n) (cv x) w := by
  rcases h with ⟨rfl, a, c, rfl⟩ | h
  · exact absurd hp (by simp)
  · exact h
theorem SlN.form {n : Nat} {w : World} {v : Value} {L : List (List Int)} (h : SlN n w v L) : ∃ a c, v = .slice a L.length c := by
  rcases h with ⟨rfl, a, c, rfl⟩ | ⟨g, o, c, rfl, _⟩
  · exact ⟨a, c, rfl⟩
  · exact ⟨_, c, rfl⟩
theorem CsIn.belowN {b off n : Nat} {cs : Array Value} {w w' : World} (h : CsIn b off cs w) (hb : Below n w w') (hn : b < n) : CsIn b off cs w' :=
  ⟨Nat.lt_of_lt_of_le h.1 hb.size, fun j v hv => by rw [hb.cell (p := ⟨b, off + j, none⟩) hn]; exact h.2 j v hv⟩
theorem list4 {y : List Int} (h : y.length = 4) : ∃ d0 d1 d2 d3, y = [d0, d1, d2, d3] := by
  match y, h with
  | [a, b, c, d], _ => exact ⟨a, b, c, d, rfl⟩
theorem so_pd {w : World} {g d : Nat} (h : RowAt g #[.pointer (some ⟨d, 0, none⟩)] 23 w) : So 1 (.slice (some ⟨g, 0, none⟩) 1 1) 1 [ptV d] w := by
  refine ⟨rfl, .inr ⟨_, _, rfl, fun j u hj => ?_⟩⟩
  rw [Addr.add_lit, Nat.zero_add, h.cell]
  match j, hj with
  | 0, hj => exact hj
  | j + 1, hj => simp at hj
/-- What played leaves. -/
def PlQ (N : Nat) (w : World) (e : Ending) (w' : World) : Prop := ∃ P ds vd vh vs Ls hs Ss, e = .returned (.pointer (some ⟨P, 0, none⟩)) ∧ PlAt w.heap.size P N ds vd vh vs Ls hs Ss w' ∧ PlR N Ls hs Ss ∧ ds.length = N ∧ Ss.length ≤ 100 ∧ Below w.heap.size w w'
theorem rep_snoc {α : Type} (x : α) (k : Nat) : List.replicate k x ++ [x] = List.replicate (k + 1) x := by rw [List.replicate_succ']

set_option maxHeartbeats 16000000 in
theorem played_ok {ad : Nat → Addr} {w : World} (L : Lz ad w) {N : Nat} (h1 : 1 ≤ N) (h8 : N ≤ 8) {v : Value} {M : List (List Int)} (hl : SlN 4 w v M) (hf : ∀ x ∈ M, x.length = 4 ∧ ∀ z ∈ x, fitsI z) :
    Calls Tryd.prog 24 #[.int .i64 (N : Int), v] w (PlQ N w) := by
  obtain ⟨a9, c9, rfl⟩ := hl.form
  have HA := hid_of' (And.intro hl hf)
  have HL := hid_of' L
  clear hl hf L
  obtain ⟨ML, hML⟩ : ∃ n, M.length = n := ⟨_, rfl⟩
  have HML := hid_of' hML
  rw [hML]
  clear hML
  go_enter Tryd.func24, Tryd.ntmps24
  go_upto_region 3 with fail
  have hB0 := below_one w (.cells #[.slice none 0 0, .slice none 0 0, .slice none 0 0] 70)
  have r0 := RowAt.news w #[.slice none 0 0, .slice none 0 0, .slice none 0 0] 70
  have hp0 : PlAt w.heap.size w.heap.size N [] (.slice none 0 0) (.slice none 0 0) (.slice none 0 0) [] [] [] (w.alloc (.cells #[.slice none 0 0, .slice none 0 0, .slice none 0 0] 70)) :=
    ⟨r0, Rw.nil _ _ _, ⟨Rw.nil _ _ _, fun x h => by cases h⟩, ⟨Rw.nil _ _ _, fun x h => by cases h⟩, rfl, (fun i b l h => by cases h), (fun i j b h => by cases h), Nat.le_refl _, (fun b h => by cases h), (fun k h => by rcases h with h | h | h <;> cases h)⟩
  have H0 := hid_of' (And.intro hp0 hB0)
  clear hp0 hB0 r0
  generalize w.alloc (.cells #[.slice none 0 0, .slice none 0 0, .slice none 0 0] 70) = W0 at H0 ⊢
  obtain ⟨P, hP⟩ : ∃ P, w.heap.size = P := ⟨_, rfl⟩
  have H0 : Hid (PlAt w.heap.size P N [] (.slice none 0 0) (.slice none 0 0) (.slice none 0 0) [] [] [] W0 ∧ Below w.heap.size w W0) := by
    have q := H0.out
    rw [← hP]
    exact q
  rw [hP]
  clear hP
  go_loopw [6] (fun i wr => ∃ (k : Nat) (ds : List Nat) (vd vh : Value), i = .int .i64 (k : Int) ∧ k ≤ N ∧ ds.length = k ∧ PlAt w.heap.size P N ds vd vh (.slice none 0 0) (List.replicate k rds0) (List.replicate k z8) [] wr ∧ Below w.heap.size w wr) (fun i _ => N - (intOf i).toNat)
  case atStart => exact ⟨0, [], _, _, rfl, by omega, rfl, H0.out.1, H0.out.2⟩
  case round =>
    rename World => wr
    clear H0
    obtain ⟨k, ds, vd, vh, rfl, hk, hdsk, hpl, hB⟩ := hrel
    by_cases hlt : k < N
    · have hki : (k : Int) < (N : Int) := by omega
      have HN := hid_of' (new_ok (n := (N : Int)) (s := (k : Int)) (by omega) (by omega) (by omega) hki wr)
      have HP := hid_of' (And.intro hpl (And.intro hB hdsk))
      clear hpl hB hdsk
      go_upto_region 8 with (go_at_call 9; refine HN.out.mono ?_; rintro e w1 ⟨d, rfl, hdl, hd, hb1⟩; clear HN)
      have hpl1 := HP.out.1.later hb1
      obtain ⟨da, dc, hvd, _, _⟩ := hpl1.d.form
      have HVD := hid_of' hvd
      have c0 := hpl1.c0
      rw [hvd] at c0
      have hbx := below_one w1 (.cells #[.pointer (some ⟨d, 0, none⟩)] 23)
      have hpl2 := hpl1.later hbx
      have hd2 := hd.later hbx
      have hlit := so_pd (RowAt.news w1 #[.pointer (some ⟨d, 0, none⟩)] 23)
      have hsl := hpl2.d
      rw [hvd] at hsl
      have HQ := hid_of' (And.intro hpl2 (And.intro hd2 (And.intro (bgo (bgo HP.out.2.1 hb1) hbx) (And.intro hdl HP.out))))
      clear hvd hpl2 hd2 hd hpl1 hbx
      go_upto_region 9 with (first | (at_builtin; refine wpList_plain rfl fun _ hK => ?_; refine opw_appPd _ _ rfl rfl rfl hsl hlit (fun y hy => by rw [List.mem_singleton.1 hy]; rfl) (by have := HP.out.2.2; omega) ?_; intro v' w' q1 q2 q3; obtain ⟨va, vc, hv', _, _⟩ := q1.form; rw [hv'] at q1 q3; have hpx := RowAt.grow HQ.out.1.p q2 (fun e => (HQ.out.1.neP).1 P (.inl (by rw [HVD.out]; exact e)) rfl); have cP := hpx.cell 0; have fP := RowAt.frz hpx 0; refine hK _ _ ?_; rw [hv']))
      clear c0 cP fP hpx
      have hnew : d ∉ ds := fun q => by
        obtain ⟨i, l, _, hdd⟩ := HP.out.1.mem q
        have := hdd.lt
        omega
      rw [← HVD.out] at q2 q3
      obtain ⟨hadd, haddb⟩ := HQ.out.1.addD (by rw [HP.out.2.2]; exact HQ.out.2.1) hnew (by have := HP.out.2.1.size; omega) q1 q2 q3
      rw [rep_snoc] at hadd
      have H8 := hid_of' (And.intro hadd (HQ.out.2.2.1.trans haddb))
      have HD := hid_of' HP.out.2.2
      clear q1 q2 q3 hadd haddb hnew hlit hsl HQ HP HVD hb1 hdl hv'
      generalize w'.setCell ⟨P, 0, none⟩ (.slice va (ds.length + 1) vc) = W8 at H8 ⊢
      generalize (Value.slice va (ds.length + 1) vc) = vd2 at H8 ⊢
      obtain ⟨ha, hc, hvh, _, _⟩ := H8.out.1.h.1.form
      rw [List.length_replicate] at hvh
      have HVH := hid_of' hvh
      have c1 := H8.out.1.c1
      rw [hvh] at c1
      have hbx := below_one W8 (.cells (cv z8) 42)
      have hpl2 := H8.out.1.later hbx
      have hlit := so_one (x := z8) (m := 8) rfl (RowAt.news W8 (cv z8) 42)
      have hsl := hpl2.h
      rw [hvh] at hsl
      have HQ := hid_of' (And.intro hpl2 (bgo H8.out.2 hbx))
      have hbz := bldCk0
      clear hvh hpl2 hbx
      go_upto_region 4 with (first | (refine wpL_bld rfl _ _ rfl _ (by simpa using hbz) ?_) | (refine wpList_plain rfl fun _ hK => opw_oneCk (y := z8) _ rfl rfl rfl ?_; refine hK _ _ ?_) | (at_builtin; refine wpList_plain rfl fun _ hK => ?_; refine opw_appCk _ _ rfl rfl rfl hsl rfl hlit (by rw [List.length_replicate]; omega) ?_; intro v' w' q1 q2 q3; obtain ⟨va, vc, hv', _, _⟩ := q1.1.form; rw [List.length_append, List.length_replicate, List.length_singleton] at hv'; rw [hv'] at q1 q3; have hpx := RowAt.grow HQ.out.1.p q2 (fun e => (HQ.out.1.neP).1 P (.inr (.inl (by rw [HVH.out]; exact e))) rfl); have cP := hpx.cell 1; have fP := RowAt.frz hpx 1; refine hK _ _ ?_; rw [hv']))
      clear c1 cP fP hpx
      rw [← HVH.out] at q2 q3
      obtain ⟨hadd, haddb⟩ := HQ.out.1.addH q1 q2 q3
      rw [rep_snoc] at hadd
      have H9 := hid_of' (And.intro hadd (HQ.out.2.trans haddb))
      clear q1 q2 q3 hadd haddb hlit hsl HQ HVH hv' H8
      generalize w'.setCell ⟨P, 1, none⟩ (.slice va (k + 1) vc) = W9 at H9 ⊢
      go_wp2
      go_roundw
      case rel => exact ⟨k + 1, _, _, _, by go_num, by omega, by rw [List.length_append, HD.out]; rfl, H9.out.1, H9.out.2⟩
      case measure => simp [intOf]; omega
    · have hki : ¬ (k : Int) < (N : Int) := by omega
      obtain rfl : N = k := by omega
      have hpi0 := PlI.start h1 h8
      obtain ⟨gd, cd, hvd⟩ := hpl.dpos (by omega)
      obtain ⟨gh, ch, hvh⟩ := hpl.hpos (by rw [List.length_replicate]; omega)
      rw [hdsk] at hvd
      rw [List.length_replicate] at hvh
      subst hvd hvh
      have HP := hid_of' (And.intro hpl (And.intro hB hpi0))
      have hdsN := hdsk
      clear hpl hB hpi0 hki hlt hk hdsk
      go_upto_region 11 with fail
      go_loopw [9] (fun i wr => ∃ (k : Nat) (vs : Value) (Ls : List (List Rnd)) (hs : List (List Int)) (Ss : List (List Rnd)), i = .int .i64 (k : Int) ∧ k ≤ ML ∧ k ≤ 100 ∧ PlAt w.heap.size P N ds (.slice (some ⟨gd, 0, none⟩) N cd) (.slice (some ⟨gh, 0, none⟩) N ch) vs Ls hs Ss wr ∧ PlI N Ls hs Ss k ∧ Ss.length ≤ k ∧ Below w.heap.size w wr) (fun i _ => ML - (intOf i).toNat)
      case atStart => exact ⟨0, _, _, _, _, rfl, by omega, by omega, HP.out.1, HP.out.2.2, by simp, HP.out.2.1⟩
      case round =>
        rename World => wq
        clear HP
        obtain ⟨k, vs, Ls, hs, Ss, rfl, hk, hk1, hpl, hpi, hSs, hB⟩ := hrel
        by_cases hlt : k < ML
        · have hki : (k : Int) < (ML : Int) := by omega
          by_cases h100 : k < 100
          · have hkh : (k : Int) < 100 := by omega
            obtain ⟨y0, hy0⟩ : ∃ y, M[k]? = some y := ⟨_, List.getElem?_eq_getElem (by rw [HML.out]; exact hlt)⟩
            have hyf := HA.out.2 y0 (List.mem_of_getElem? hy0)
            obtain ⟨g, o_, c2, hv9, hcs⟩ := HA.out.1.pos (by rw [HML.out]; omega)
            simp only [Value.slice.injEq] at hv9
            obtain ⟨rfl, _, rfl⟩ := hv9
            have hin0 := hcs k y0 hy0
            have hin := hin0.belowN hB hin0.1
            obtain ⟨d0, d1, d2, d3, rfl⟩ := list4 hyf.1
            have HFt : Hid (fitsI d0 ∧ fitsI d1 ∧ fitsI d2 ∧ fitsI d3) := ⟨hyf.2 _ (by simp), hyf.2 _ (by simp), hyf.2 _ (by simp), hyf.2 _ (by simp)⟩
            have HP := hid_of' (And.intro hpl (And.intro hpi hB))
            have HSk := hid_of' hSs
            clear hpl hpi hB hcs hy0 hyf hin0 hSs
            go_upto_region 14 with (first | (refine wpL_ld rfl _ _ rfl rfl hin Tryd.underlying97 rfl (mv_size d0 d1 d2 d3) ?_) | (refine wpL_alloc rfl _ rfl zMove ?_) | (refine wpL_stRow rfl _ _ _ rfl rfl rfl (RowAt.news wq _ _) (mv_size d0 d1 d2 d3) rfl (cv_one _) ?_; go_simp))
            clear hin
            have hB2 := below_row (below_one wq (.cells (cv [0, 0, 0, 0]) 97)) (Nat.le_refl wq.heap.size) (cv [d0, d1, d2, d3])
            have hm2 := (RowAt.news wq (cv [0, 0, 0, 0]) 97).rowI (cv [d0, d1, d2, d3])
            generalize (wq.alloc (.cells (cv [0, 0, 0, 0]) 97)).setRow wq.heap.size (cv [d0, d1, d2, d3]) = W1 at hB2 hm2 ⊢
            obtain ⟨mb, hmbe⟩ : ∃ b, wq.heap.size = b := ⟨_, rfl⟩
            rw [hmbe] at hm2 ⊢
            have H0 := hid_of' (And.intro (HP.out.1.later hB2) (And.intro HP.out.2.1 (bgo HP.out.2.2 hB2)))
            have HM := hid_of' hm2
            clear hmbe hB2 hm2 HP
            obtain ⟨a, hae⟩ : ∃ a, wiN d1 N = a := ⟨_, rfl⟩
            obtain ⟨b, hbe⟩ : ∃ b, wiN d2 N = b := ⟨_, rfl⟩
            obtain ⟨dd, hde⟩ : ∃ d, wiN d0 5 = d := ⟨_, rfl⟩
            have haN' : a < N := hae ▸ wiN_lt (by omega)
            have hbN' : b < N := hbe ▸ wiN_lt (by omega)
            have hd5 : dd < 5 := hde ▸ wiN_lt (by omega)
            have haN : (a : Int) < (N : Int) := by omega
            have hbN : (b : Int) < (N : Int) := by omega
            have ha8 : (a : Int) < 8 := by omega
            have HWa : Hid (∀ X : World, Calls Tryd.prog 23 #[.int .i64 d1, .int .i64 (N : Int)] X fun r w' => r = .returned (.int .i64 (a : Int)) ∧ w' = X) := fun X => by rw [← hae]; exact within_is d1 N X (by omega) (by omega) HFt.out.2.1
            have HWb : Hid (∀ X : World, Calls Tryd.prog 23 #[.int .i64 d2, .int .i64 (N : Int)] X fun r w' => r = .returned (.int .i64 (b : Int)) ∧ w' = X) := fun X => by rw [← hbe]; exact within_is d2 N X (by omega) (by omega) HFt.out.2.2.1
            have HWd : Hid (∀ X : World, Calls Tryd.prog 23 #[.int .i64 d0, .int .i64 5] X fun r w' => r = .returned (.int .i64 (dd : Int)) ∧ w' = X) := fun X => by rw [← hde]; exact within_is d0 5 X (by omega) (by omega) HFt.out.1
            clear hae hbe hde
            obtain ⟨ba, hba⟩ : ∃ c, ds[a]? = some c := ⟨_, List.getElem?_eq_getElem (by rw [hdsN]; exact haN')⟩
            obtain ⟨bb, hbb⟩ : ∃ c, ds[b]? = some c := ⟨_, List.getElem?_eq_getElem (by rw [hdsN]; exact hbN')⟩
            have HDN := hid_of' hdsN
            clear hdsN
            refine wp_region_tail 10 (by kernel_rfl) (fun _ => none) (by kernel_rfl) (by kernel_rfl) (by decide) (fun ii u X => match ii with
              | 0 => u = .pointer (some ⟨mb, 1, none⟩)
              | 1 => u = .int .i64 d1
              | 2 => u = .int .i64 (N : Int)
              | 3 => u = .int .i64 (a : Int)
              | 4 => u = .pointer (some ⟨mb, 2, none⟩)
              | 5 => u = .int .i64 d2
              | 6 => u = .int .i64 (N : Int)
              | 7 => u = .int .i64 (b : Int)
              | 8 => u = .int .i64 (a : Int)
              | 9 => u = .int .i64 (b : Int)
              | _ => True) (fun _ => false) (fun _ _ _ _ h => by cases h) ?_ ?_ ?_
            · intro ii u X X' hR hb
              match ii, hR with
              | 0, h => exact h
              | 1, h => exact h
              | 2, h => exact h
              | 3, h => exact h
              | 4, h => exact h
              | 5, h => exact h
              | 6, h => exact h
              | 7, h => exact h
              | 8, h => exact h
              | 9, h => exact h
              | m + 10, h => exact h
            · intro ii o hi ho qq X vals hX hdep hoth
              have t10 : qq.tmps[10]? = some (.pointer (some ⟨mb, 0, none⟩)) := by rw [hoth 10 (by kernel_rfl)]; rfl
              have t0 : qq.tmps[0]? = some (.int .i64 (N : Int)) := by rw [hoth 0 (by kernel_rfl)]; rfl
              match ii, hi, ho with
              | 0, _, ho =>
                simp only [List.getElem?_cons_zero, Option.some.injEq] at ho
                subst ho
                unfold Oper.wp
                simp [execOp, go_sem, t10]
                exact came _ rfl (Below.refl _ _) rfl (fun h => absurd h (by decide))
              | 1, _, ho =>
                simp only [List.getElem?_cons_succ, List.getElem?_cons_zero, Option.some.injEq] at ho
                subst ho
                obtain ⟨u0, e0⟩ := hdep ⟨0, .data⟩ (by simp) rfl _ 66 rfl rfl
                rw [show vals 0 = .pointer (some ⟨mb, 1, none⟩) from e0] at u0
                have cc : X.cell? ⟨mb, 1, none⟩ = some (.int .i64 d1) := (RowAt.later HM.out hX).cell 1
                unfold Oper.wp
                simp [execOp, go_sem, u0, cc]
                exact came _ rfl (Below.refl _ _) rfl (fun h => absurd h (by decide))
              | 2, _, ho =>
                simp only [List.getElem?_cons_succ, List.getElem?_cons_zero, Option.some.injEq] at ho
                subst ho
                unfold Oper.wp
                simp [execOp, go_sem, t0]
                exact came _ rfl (Below.refl _ _) rfl (fun h => absurd h (by decide))
              | 3, _, ho =>
                simp only [List.getElem?_cons_succ, List.getElem?_cons_zero, Option.some.injEq] at ho
                subst ho
                obtain ⟨u1, e1⟩ := hdep ⟨1, .data⟩ (by simp) rfl _ 67 rfl rfl
                rw [show vals 1 = .int .i64 d1 from e1] at u1
                obtain ⟨u2, e2⟩ := hdep ⟨2, .data⟩ (by simp) rfl _ 68 rfl rfl
                rw [show vals 2 = .int .i64 (N : Int) from e2] at u2
                unfold Oper.wp
                simp [go_sem, u1, u2]
                refine (HWa.out X).mono ?_
                rintro r x1 ⟨rfl, hw⟩; obtain rfl := hw; have hb1 := Below.refl x1.heap.size x1
                exact came _ rfl hb1 rfl (fun h => absurd h (by decide))
              | 4, _, ho =>
                simp only [List.getElem?_cons_succ, List.getElem?_cons_zero, Option.some.injEq] at ho
                subst ho
                unfold Oper.wp
                simp [execOp, go_sem, t10]
                exact came _ rfl (Below.refl _ _) rfl (fun h => absurd h (by decide))
              | 5, _, ho =>
                simp only [List.getElem?_cons_succ, List.getElem?_cons_zero, Option.some.injEq] at ho
                subst ho
                obtain ⟨u4, e4⟩ := hdep ⟨4, .data⟩ (by simp) rfl _ 70 rfl rfl
                rw [show vals 4 = .pointer (some ⟨mb, 2, none⟩) from e4] at u4
                have cc : X.cell? ⟨mb, 2, none⟩ = some (.int .i64 d2) := (RowAt.later HM.out hX).cell 2
                unfold Oper.wp
                simp [execOp, go_sem, u4, cc]
                exact came _ rfl (Below.refl _ _) rfl (fun h => absurd h (by decide))
              | 6, _, ho =>
                simp only [List.getElem?_cons_succ, List.getElem?_cons_zero, Option.some.injEq] at ho
                subst ho
                unfold Oper.wp
                simp [execOp, go_sem, t0]
                exact came _ rfl (Below.refl _ _) rfl (fun h => absurd h (by decide))
              | 7, _, ho =>
                simp only [List.getElem?_cons_succ, List.getElem?_cons_zero, Option.some.injEq] at ho
                subst ho
                obtain ⟨u5, e5⟩ := hdep ⟨5, .data⟩ (by simp) rfl _ 71 rfl rfl
                rw [show vals 5 = .int .i64 d2 from e5] at u5
                obtain ⟨u6, e6⟩ := hdep ⟨6, .data⟩ (by simp) rfl _ 72 rfl rfl
                rw [show vals 6 = .int .i64 (N : Int) from e6] at u6
                unfold Oper.wp
                simp [go_sem, u5, u6]
                refine (HWb.out X).mono ?_
                rintro r x1 ⟨rfl, hw⟩; obtain rfl := hw; have hb1 := Below.refl x1.heap.size x1
                exact came _ rfl hb1 rfl (fun h => absurd h (by decide))
              | 8, _, ho =>
                simp only [List.getElem?_cons_succ, List.getElem?_cons_zero, Option.some.injEq] at ho
                subst ho
                obtain ⟨u3, e3⟩ := hdep ⟨3, .data⟩ (by simp) rfl _ 69 rfl rfl
                rw [show vals 3 = .int .i64 (a : Int) from e3] at u3
                unfold Oper.wp
                simp [execOp, go_sem, u3]
                exact came _ rfl (Below.refl _ _) rfl (fun h => absurd h (by decide))
              | 9, _, ho =>
                simp only [List.getElem?_cons_succ, List.getElem?_cons_zero, Option.some.injEq] at ho
                subst ho
                obtain ⟨u7, e7⟩ := hdep ⟨7, .data⟩ (by simp) rfl _ 73 rfl rfl
                rw [show vals 7 = .int .i64 (b : Int) from e7] at u7
                unfold Oper.wp
                simp [execOp, go_sem, u7]
                exact came _ rfl (Below.refl _ _) rfl (fun h => absurd h (by decide))
              | m + 10, hi, _ => exact absurd hi (by omega)
            · intro vals X1 hX hR _
              have e8 : vals 8 = .int .i64 (a : Int) := hR 8 (by decide)
              have e9 : vals 9 = .int .i64 (b : Int) := hR 9 (by decide)
              have cm : X1.cell? ⟨mb, 0, none⟩ = some (.int .i64 d0) := (RowAt.later HM.out hX).cell 0
              have HM : Hid (RowAt mb (cv [d0, d1, d2, d3]) 97 X1) := RowAt.later HM.out hX
              have H1 := hid_of' (And.intro (H0.out.1.later hX) (And.intro H0.out.2.1 (bgo H0.out.2.2 hX)))
              have H2 := hid_of' H1.out.1
              clear hR hX H0 HWa HWb
              simp only [List.drop, List.take, putAll, List.setIfInBounds_toArray, List.set_cons_succ, List.set_cons_zero, e8, e9]
              clear e8 e9
              go_upto_block 4 with (go_at_call 23; refine (HWd.out _).mono ?_; rintro e w2 ⟨rfl, hw⟩; obtain rfl := hw)
              clear cm HWd
              go_cut [11] from 52 to 226 (fun s11 wx => s11 = .int .i64 (a : Int) ∧ ∃ Ls1 hs1, PlAt w.heap.size P N ds (.slice (some ⟨gd, 0, none⟩) N cd) (.slice (some ⟨gh, 0, none⟩) N ch) vs Ls1 hs1 Ss wx ∧ PlI N Ls1 hs1 Ss (k + 1) ∧ Below w.heap.size w wx)
              case first =>
                have hdc : dd = 0 ∨ dd = 1 ∨ dd = 2 ∨ dd = 3 ∨ dd = 4 := by omega
                clear hd5
                rcases hdc with rfl | rfl | rfl | rfl | rfl
                · go_upto_region 19 with fail
                  obtain ⟨x, hxa, hx8⟩ : ∃ x, hs[a]? = some x ∧ x.length = 8 := ⟨_, List.getElem?_eq_getElem (by rw [H1.out.2.1.lh]; exact haN'), (H1.out.2.1.okh _ (List.getElem_mem _)).1⟩
                  refine wp_region_tail 14 (by kernel_rfl) (fun _ => none) (by kernel_rfl) (by kernel_rfl) (by decide) (fun ii u X => match ii with
                    | 0 => u = .pointer (some ⟨P, 0, none⟩)
                    | 1 => u = .pointer (some ⟨P, 0, none⟩)
                    | 2 => u = .pointer (some ⟨P, 0, none⟩)
                    | 3 => u = .slice (some ⟨gd, 0, none⟩) N cd
                    | 4 => u = .int .i64 (a : Int)
                    | 5 => u = .pointer (some ⟨gd, a, none⟩)
                    | 6 => u = .pointer (some ⟨ba, 0, none⟩)
                    | 7 => u = .pointer (some ⟨P, 0, none⟩)
                    | 8 => u = .pointer (some ⟨P, 0, none⟩)
                    | 9 => u = .pointer (some ⟨P, 1, none⟩)
                    | 10 => u = .slice (some ⟨gh, 0, none⟩) N ch
                    | 11 => u = .int .i64 (a : Int)
                    | 12 => u = .pointer (some ⟨gh, a * 8, none⟩)
                    | 13 => u = .agg (cv x)
                    | _ => True) (fun _ => false) (fun _ _ _ _ h => by cases h) ?_ ?_ ?_
                  · intro ii u X X' hR hb
                    match ii, hR with
                    | 0, h => exact h
                    | 1, h => exact h
                    | 2, h => exact h
                    | 3, h => exact h
                    | 4, h => exact h
                    | 5, h => exact h
                    | 6, h => exact h
                    | 7, h => exact h
                    | 8, h => exact h
                    | 9, h => exact h
                    | 10, h => exact h
                    | 11, h => exact h
                    | 12, h => exact h
                    | 13, h => exact h
                    | m + 14, h => exact h
                  · intro ii o hi ho qq X vals hX hdep hoth
                    have t5 : qq.tmps[5]? = some (.pointer (some ⟨P, 0, none⟩)) := by rw [hoth 5 (by kernel_rfl)]; rfl
                    have t11 : qq.tmps[11]? = some (.int .i64 (a : Int)) := by rw [hoth 11 (by kernel_rfl)]; rfl
                    match ii, hi, ho with
                    | 0, _, ho =>
                      simp only [List.getElem?_cons_zero, Option.some.injEq] at ho
                      subst ho
                      unfold Oper.wp
                      simp [execOp, go_sem, t5]
                      exact came _ rfl (Below.refl _ _) rfl (fun h => absurd h (by decide))
                    | 1, _, ho =>
                      simp only [List.getElem?_cons_succ, List.getElem?_cons_zero, Option.some.injEq] at ho
                      subst ho
                      obtain ⟨u0, e0⟩ := hdep ⟨0, .data⟩ (by simp) rfl _ 107 rfl rfl
                      rw [show vals 0 = .pointer (some ⟨P, 0, none⟩) from e0] at u0
                      unfold Oper.wp
                      simp [execOp, go_sem, u0]
                      exact came _ rfl (Below.refl _ _) rfl (fun h => absurd h (by decide))
                    | 2, _, ho =>
                      simp only [List.getElem?_cons_succ, List.getElem?_cons_zero, Option.some.injEq] at ho
                      subst ho
                      obtain ⟨u1, e1⟩ := hdep ⟨1, .data⟩ (by simp) rfl _ 108 rfl rfl
                      rw [show vals 1 = .pointer (some ⟨P, 0, none⟩) from e1] at u1
                      unfold Oper.wp
                      simp [execOp, go_sem, u1]
                      exact came _ rfl (Below.refl _ _) rfl (fun h => absurd h (by decide))
                    | 3, _, ho =>
                      simp only [List.getElem?_cons_succ, List.getElem?_cons_zero, Option.some.injEq] at ho
                      subst ho
                      obtain ⟨u2, e2⟩ := hdep ⟨2, .data⟩ (by simp) rfl _ 109 rfl rfl
                      rw [show vals 2 = .pointer (some ⟨P, 0, none⟩) from e2] at u2
                      have cc := (PlAt.later H2.out hX).c0
                      unfold Oper.wp
                      simp [execOp, go_sem, u2, cc]
                      exact came _ rfl (Below.refl _ _) rfl (fun h => absurd h (by decide))
                    | 4, _, ho =>
                      simp only [List.getElem?_cons_succ, List.getElem?_cons_zero, Option.some.injEq] at ho
                      subst ho
                      unfold Oper.wp
                      simp [execOp, go_sem, t11]
                      exact came _ rfl (Below.refl _ _) rfl (fun h => absurd h (by decide))
                    | 5, _, ho =>
                      simp only [List.getElem?_cons_succ, List.getElem?_cons_zero, Option.some.injEq] at ho
                      subst ho
                      obtain ⟨u3, e3⟩ := hdep ⟨3, .data⟩ (by simp) rfl _ 110 rfl rfl
                      rw [show vals 3 = .slice (some ⟨gd, 0, none⟩) N cd from e3] at u3
                      obtain ⟨u4, e4⟩ := hdep ⟨4, .data⟩ (by simp) rfl _ 111 rfl rfl
                      rw [show vals 4 = .int .i64 (a : Int) from e4] at u4
                      unfold Oper.wp
                      simp [execOp, go_sem, u3, u4, haN]
                      exact came _ rfl (Below.refl _ _) rfl (fun h => absurd h (by decide))
                    | 6, _, ho =>
                      simp only [List.getElem?_cons_succ, List.getElem?_cons_zero, Option.some.injEq] at ho
                      subst ho
                      obtain ⟨u5, e5⟩ := hdep ⟨5, .data⟩ (by simp) rfl _ 112 rfl rfl
                      rw [show vals 5 = .pointer (some ⟨gd, a, none⟩) from e5] at u5
                      have cc := (PlAt.later H2.out hX).pd hba
                      unfold Oper.wp
                      simp [execOp, go_sem, u5, cc]
                      exact came _ rfl (Below.refl _ _) rfl (fun h => absurd h (by decide))
                    | 7, _, ho =>
                      simp only [List.getElem?_cons_succ, List.getElem?_cons_zero, Option.some.injEq] at ho
                      subst ho
                      unfold Oper.wp
                      simp [execOp, go_sem, t5]
                      exact came _ rfl (Below.refl _ _) rfl (fun h => absurd h (by decide))
                    | 8, _, ho =>
                      simp only [List.getElem?_cons_succ, List.getElem?_cons_zero, Option.some.injEq] at ho
                      subst ho
                      obtain ⟨u7, e7⟩ := hdep ⟨7, .data⟩ (by simp) rfl _ 114 rfl rfl
                      rw [show vals 7 = .pointer (some ⟨P, 0, none⟩) from e7] at u7
                      unfold Oper.wp
                      simp [execOp, go_sem, u7]
                      exact came _ rfl (Below.refl _ _) rfl (fun h => absurd h (by decide))
                    | 9, _, ho =>
                      simp only [List.getElem?_cons_succ, List.getElem?_cons_zero, Option.some.injEq] at ho
                      subst ho
                      obtain ⟨u8, e8⟩ := hdep ⟨8, .data⟩ (by simp) rfl _ 115 rfl rfl
                      rw [show vals 8 = .pointer (some ⟨P, 0, none⟩) from e8] at u8
                      unfold Oper.wp
                      simp [execOp, go_sem, u8]
                      exact came _ rfl (Below.refl _ _) rfl (fun h => absurd h (by decide))
                    | 10, _, ho =>
                      simp only [List.getElem?_cons_succ, List.getElem?_cons_zero, Option.some.injEq] at ho
                      subst ho
                      obtain ⟨u9, e9⟩ := hdep ⟨9, .data⟩ (by simp) rfl _ 116 rfl rfl
                      rw [show vals 9 = .pointer (some ⟨P, 1, none⟩) from e9] at u9
                      have cc := (PlAt.later H2.out hX).c1
                      unfold Oper.wp
                      simp [execOp, go_sem, u9, cc]
                      exact came _ rfl (Below.refl _ _) rfl (fun h => absurd h (by decide))
                    | 11, _, ho =>
                      simp only [List.getElem?_cons_succ, List.getElem?_cons_zero, Option.some.injEq] at ho
                      subst ho
                      unfold Oper.wp
                      simp [execOp, go_sem, t11]
                      exact came _ rfl (Below.refl _ _) rfl (fun h => absurd h (by decide))
                    | 12, _, ho =>
                      simp only [List.getElem?_cons_succ, List.getElem?_cons_zero, Option.some.injEq] at ho
                      subst ho
                      obtain ⟨u10, e10⟩ := hdep ⟨10, .data⟩ (by simp) rfl _ 117 rfl rfl
                      rw [show vals 10 = .slice (some ⟨gh, 0, none⟩) N ch from e10] at u10
                      obtain ⟨u11, e11⟩ := hdep ⟨11, .data⟩ (by simp) rfl _ 118 rfl rfl
                      rw [show vals 11 = .int .i64 (a : Int) from e11] at u11
                      unfold Oper.wp
                      simp [execOp, go_sem, u10, u11, haN]
                      exact came _ rfl (Below.refl _ _) rfl (fun h => absurd h (by decide))
                    | 13, _, ho =>
                      simp only [List.getElem?_cons_succ, List.getElem?_cons_zero, Option.some.injEq] at ho
                      subst ho
                      obtain ⟨u12, e12⟩ := hdep ⟨12, .data⟩ (by simp) rfl _ 119 rfl rfl
                      rw [show vals 12 = .pointer (some ⟨gh, a * 8, none⟩) from e12] at u12
                      exact opCk hx8 _ rfl (by simp [Act.eval, u12]) ((PlAt.later H2.out hX).hin hxa) (came _ rfl (Below.refl _ _) rfl (fun h => absurd h (by decide)))
                    | m + 14, hi, _ => exact absurd hi (by omega)
                  · intro vals X hX hR _
                    have e6 : vals 6 = .pointer (some ⟨ba, 0, none⟩) := hR 6 (by decide)
                    have e13 : vals 13 = .agg (cv x) := hR 13 (by decide)
                    obtain ⟨l, hla, hlo⟩ : ∃ l, Ls[a]? = some l ∧ OkL l := ⟨_, List.getElem?_eq_getElem (by rw [H1.out.2.1.lL]; exact haN'), H1.out.2.1.okL _ (List.getElem_mem _)⟩
                    obtain ⟨r, hra, hro⟩ := hlo.at (i := a) (by omega)
                    have HX := hid_of' hX
                    clear hR hX
                    simp only [List.drop, List.take, putAll, List.setIfInBounds_toArray, List.set_cons_succ, List.set_cons_zero, e6, e13]
                    clear e6 e13
                    cases hbz : busyR r
                    · have hpos : 0 ≤ r.num := by
                        obtain ⟨G, F, _⟩ := H1.out.2.1.fi
                        have := (F.kn a a haN' (by omega)).pos
                        rw [wdOf_d hs hla, fnOf_at hra] at this
                        exact this
                      have HP := hid_of' (propose_ok ((PlAt.later H2.out HX.out).dk a ba l hba hla) (by omega) hra hx8 hbz (by omega))
                      clear hbz
                      go_wp2_with (go_at_call 34; refine HP.out.mono ?_; rintro e W4 ⟨rfl, hd4, hc4⟩; clear HP)
                      go_meet
                      case rel => exact ⟨rfl, _, hs, (PlAt.later H2.out HX.out).desk hba hd4 hc4, (H1.out.2.1.propose haN' hla hxa hra).up, (bgo H1.out.2.2 HX.out).trans ((PlAt.later H2.out HX.out).below (List.mem_of_getElem? hba) hc4)⟩
                    · have HP := hid_of' (propose_no ((PlAt.later H2.out HX.out).dk a ba l hba hla) (by omega) hra hx8 (HL.out.later (bgo H1.out.2.2 HX.out)) hbz)
                      clear hbz
                      go_wp2_with (go_at_call 34; refine HP.out.mono ?_; rintro e W4 ⟨⟨v9, rfl, _⟩, hb4⟩; clear HP)
                      go_meet
                      case rel => exact ⟨rfl, Ls, hs, (PlAt.later H2.out HX.out).later hb4, H1.out.2.1.up, bgo (bgo H1.out.2.2 HX.out) hb4⟩
                · go_upto_region 21 with fail
                  obtain ⟨m, hmb, om⟩ : ∃ l, Ls[b]? = some l ∧ OkL l := ⟨_, List.getElem?_eq_getElem (by rw [H1.out.2.1.lL]; exact hbN'), H1.out.2.1.okL _ (List.getElem_mem _)⟩
                  refine wp_region_tail 15 (by kernel_rfl) (fun _ => none) (by kernel_rfl) (by kernel_rfl) (by decide) (fun ii u X => match ii with
                    | 0 => u = .pointer (some ⟨P, 0, none⟩)
                    | 1 => u = .pointer (some ⟨P, 0, none⟩)
                    | 2 => u = .pointer (some ⟨P, 0, none⟩)
                    | 3 => u = .slice (some ⟨gd, 0, none⟩) N cd
                    | 4 => u = .int .i64 (a : Int)
                    | 5 => u = .pointer (some ⟨gd, a, none⟩)
                    | 6 => u = .pointer (some ⟨ba, 0, none⟩)
                    | 7 => u = .pointer (some ⟨P, 0, none⟩)
                    | 8 => u = .pointer (some ⟨P, 0, none⟩)
                    | 9 => u = .pointer (some ⟨P, 0, none⟩)
                    | 10 => u = .slice (some ⟨gd, 0, none⟩) N cd
                    | 11 => u = .int .i64 (b : Int)
                    | 12 => u = .pointer (some ⟨gd, b, none⟩)
                    | 13 => u = .pointer (some ⟨bb, 0, none⟩)
                    | 14 => u = .agg (cv (rs m))
                    | _ => True) (fun _ => false) (fun _ _ _ _ h => by cases h) ?_ ?_ ?_
                  · intro ii u X X' hR hb
                    match ii, hR with
                    | 0, h => exact h
                    | 1, h => exact h
                    | 2, h => exact h
                    | 3, h => exact h
                    | 4, h => exact h
                    | 5, h => exact h
                    | 6, h => exact h
                    | 7, h => exact h
                    | 8, h => exact h
                    | 9, h => exact h
                    | 10, h => exact h
                    | 11, h => exact h
                    | 12, h => exact h
                    | 13, h => exact h
                    | 14, h => exact h
                    | m + 15, h => exact h
                  · intro ii o hi ho qq X vals hX hdep hoth
                    have t5 : qq.tmps[5]? = some (.pointer (some ⟨P, 0, none⟩)) := by rw [hoth 5 (by kernel_rfl)]; rfl
                    have t11 : qq.tmps[11]? = some (.int .i64 (a : Int)) := by rw [hoth 11 (by kernel_rfl)]; rfl
                    have t12 : qq.tmps[12]? = some (.int .i64 (b : Int)) := by rw [hoth 12 (by kernel_rfl)]; rfl
                    match ii, hi, ho with
                    | 0, _, ho =>
                      simp only [List.getElem?_cons_zero, Option.some.injEq] at ho
                      subst ho
                      unfold Oper.wp
                      simp [execOp, go_sem, t5]
                      exact came _ rfl (Below.refl _ _) rfl (fun h => absurd h (by decide))
                    | 1, _, ho =>
                      simp only [List.getElem?_cons_succ, List.getElem?_cons_zero, Option.some.injEq] at ho
                      subst ho
                      obtain ⟨u0, e0⟩ := hdep ⟨0, .data⟩ (by simp) rfl _ 124 rfl rfl
                      rw [show vals 0 = .pointer (some ⟨P, 0, none⟩) from e0] at u0
                      unfold Oper.wp
                      simp [execOp, go_sem, u0]
                      exact came _ rfl (Below.refl _ _) rfl (fun h => absurd h (by decide))
                    | 2, _, ho =>
                      simp only [List.getElem?_cons_succ, List.getElem?_cons_zero, Option.some.injEq] at ho
                      subst ho
                      obtain ⟨u1, e1⟩ := hdep ⟨1, .data⟩ (by simp) rfl _ 125 rfl rfl
                      rw [show vals 1 = .pointer (some ⟨P, 0, none⟩) from e1] at u1
                      unfold Oper.wp
                      simp [execOp, go_sem, u1]
                      exact came _ rfl (Below.refl _ _) rfl (fun h => absurd h (by decide))
                    | 3, _, ho =>
                      simp only [List.getElem?_cons_succ, List.getElem?_cons_zero, Option.some.injEq] at ho
                      subst ho
                      obtain ⟨u2, e2⟩ := hdep ⟨2, .data⟩ (by simp) rfl _ 126 rfl rfl
                      rw [show vals 2 = .pointer (some ⟨P, 0, none⟩) from e2] at u2
                      have cc := (PlAt.later H2.out hX).c0
                      unfold Oper.wp
                      simp [execOp, go_sem, u2, cc]
                      exact came _ rfl (Below.refl _ _) rfl (fun h => absurd h (by decide))
                    | 4, _, ho =>
                      simp only [List.getElem?_cons_succ, List.getElem?_cons_zero, Option.some.injEq] at ho
                      subst ho
                      unfold Oper.wp
                      simp [execOp, go_sem, t11]
                      exact came _ rfl (Below.refl _ _) rfl (fun h => absurd h (by decide))
                    | 5, _, ho =>
                      simp only [List.getElem?_cons_succ, List.getElem?_cons_zero, Option.some.injEq] at ho
                      subst ho
                      obtain ⟨u3, e3⟩ := hdep ⟨3, .data⟩ (by simp) rfl _ 127 rfl rfl
                      rw [show vals 3 = .slice (some ⟨gd, 0, none⟩) N cd from e3] at u3
                      obtain ⟨u4, e4⟩ := hdep ⟨4, .data⟩ (by simp) rfl _ 128 rfl rfl
                      rw [show vals 4 = .int .i64 (a : Int) from e4] at u4
                      unfold Oper.wp
                      simp [execOp, go_sem, u3, u4, haN]
                      exact came _ rfl (Below.refl _ _) rfl (fun h => absurd h (by decide))
                    | 6, _, ho =>
                      simp only [List.getElem?_cons_succ, List.getElem?_cons_zero, Option.some.injEq] at ho
                      subst ho
                      obtain ⟨u5, e5⟩ := hdep ⟨5, .data⟩ (by simp) rfl _ 129 rfl rfl
                      rw [show vals 5 = .pointer (some ⟨gd, a, none⟩) from e5] at u5
                      have cc := (PlAt.later H2.out hX).pd hba
                      unfold Oper.wp
                      simp [execOp, go_sem, u5, cc]
                      exact came _ rfl (Below.refl _ _) rfl (fun h => absurd h (by decide))
                    | 7, _, ho =>
                      simp only [List.getElem?_cons_succ, List.getElem?_cons_zero, Option.some.injEq] at ho
                      subst ho
                      unfold Oper.wp
                      simp [execOp, go_sem, t5]
                      exact came _ rfl (Below.refl _ _) rfl (fun h => absurd h (by decide))
                    | 8, _, ho =>
                      simp only [List.getElem?_cons_succ, List.getElem?_cons_zero, Option.some.injEq] at ho
                      subst ho
                      obtain ⟨u7, e7⟩ := hdep ⟨7, .data⟩ (by simp) rfl _ 131 rfl rfl
                      rw [show vals 7 = .pointer (some ⟨P, 0, none⟩) from e7] at u7
                      unfold Oper.wp
                      simp [execOp, go_sem, u7]
                      exact came _ rfl (Below.refl _ _) rfl (fun h => absurd h (by decide))
                    | 9, _, ho =>
                      simp only [List.getElem?_cons_succ, List.getElem?_cons_zero, Option.some.injEq] at ho
                      subst ho
                      obtain ⟨u8, e8⟩ := hdep ⟨8, .data⟩ (by simp) rfl _ 132 rfl rfl
                      rw [show vals 8 = .pointer (some ⟨P, 0, none⟩) from e8] at u8
                      unfold Oper.wp
                      simp [execOp, go_sem, u8]
                      exact came _ rfl (Below.refl _ _) rfl (fun h => absurd h (by decide))
                    | 10, _, ho =>
                      simp only [List.getElem?_cons_succ, List.getElem?_cons_zero, Option.some.injEq] at ho
                      subst ho
                      obtain ⟨u9, e9⟩ := hdep ⟨9, .data⟩ (by simp) rfl _ 133 rfl rfl
                      rw [show vals 9 = .pointer (some ⟨P, 0, none⟩) from e9] at u9
                      have cc := (PlAt.later H2.out hX).c0
                      unfold Oper.wp
                      simp [execOp, go_sem, u9, cc]
                      exact came _ rfl (Below.refl _ _) rfl (fun h => absurd h (by decide))
                    | 11, _, ho =>
                      simp only [List.getElem?_cons_succ, List.getElem?_cons_zero, Option.some.injEq] at ho
                      subst ho
                      unfold Oper.wp
                      simp [execOp, go_sem, t12]
                      exact came _ rfl (Below.refl _ _) rfl (fun h => absurd h (by decide))
                    | 12, _, ho =>
                      simp only [List.getElem?_cons_succ, List.getElem?_cons_zero, Option.some.injEq] at ho
                      subst ho
                      obtain ⟨u10, e10⟩ := hdep ⟨10, .data⟩ (by simp) rfl _ 134 rfl rfl
                      rw [show vals 10 = .slice (some ⟨gd, 0, none⟩) N cd from e10] at u10
                      obtain ⟨u11, e11⟩ := hdep ⟨11, .data⟩ (by simp) rfl _ 135 rfl rfl
                      rw [show vals 11 = .int .i64 (b : Int) from e11] at u11
                      unfold Oper.wp
                      simp [execOp, go_sem, u10, u11, hbN]
                      exact came _ rfl (Below.refl _ _) rfl (fun h => absurd h (by decide))
                    | 13, _, ho =>
                      simp only [List.getElem?_cons_succ, List.getElem?_cons_zero, Option.some.injEq] at ho
                      subst ho
                      obtain ⟨u12, e12⟩ := hdep ⟨12, .data⟩ (by simp) rfl _ 136 rfl rfl
                      rw [show vals 12 = .pointer (some ⟨gd, b, none⟩) from e12] at u12
                      have cc := (PlAt.later H2.out hX).pd hbb
                      unfold Oper.wp
                      simp [execOp, go_sem, u12, cc]
                      exact came _ rfl (Below.refl _ _) rfl (fun h => absurd h (by decide))
                    | 14, _, ho =>
                      simp only [List.getElem?_cons_succ, List.getElem?_cons_zero, Option.some.injEq] at ho
                      subst ho
                      obtain ⟨u13, e13⟩ := hdep ⟨13, .data⟩ (by simp) rfl _ 137 rfl rfl
                      rw [show vals 13 = .pointer (some ⟨bb, 0, none⟩) from e13] at u13
                      unfold Oper.wp
                      simp [go_sem, u13]
                      refine (rounds_any ((PlAt.later H2.out hX).dk b bb m hbb hmb)).mono ?_
                      rintro r x1 ⟨rfl, hb1⟩
                      exact came _ rfl hb1 rfl (fun h => absurd h (by decide))
                    | m + 15, hi, _ => exact absurd hi (by omega)
                  · intro vals X hX hR _
                    have e6 : vals 6 = .pointer (some ⟨ba, 0, none⟩) := hR 6 (by decide)
                    have e14 : vals 14 = .agg (cv (rs m)) := hR 14 (by decide)
                    obtain ⟨l, hla, hlo⟩ : ∃ l, Ls[a]? = some l ∧ OkL l := ⟨_, List.getElem?_eq_getElem (by rw [H1.out.2.1.lL]; exact haN'), H1.out.2.1.okL _ (List.getElem_mem _)⟩
                    have HX := hid_of' hX
                    clear hR hX
                    simp only [List.drop, List.take, putAll, List.setIfInBounds_toArray, List.set_cons_succ, List.set_cons_zero, e6, e14]
                    clear e6 e14
                    have HP := hid_of' (deskJoin_any ((PlAt.later H2.out HX.out).dk a ba l hba hla) om)
                    go_wp2_with (go_at_call 38; refine HP.out.mono ?_; rintro e W4 ⟨rfl, hd4, hc4⟩; clear HP)
                    go_meet
                    case rel => exact ⟨rfl, _, hs, (PlAt.later H2.out HX.out).desk hba hd4 hc4, (H1.out.2.1.join haN' hla (.inl ⟨b, hbN', hmb⟩)).up, (bgo H1.out.2.2 HX.out).trans ((PlAt.later H2.out HX.out).below (List.mem_of_getElem? hba) hc4)⟩
                · go_upto_region 23 with fail
                  obtain ⟨x, hxa, hx8⟩ : ∃ x, hs[a]? = some x ∧ x.length = 8 := ⟨_, List.getElem?_eq_getElem (by rw [H1.out.2.1.lh]; exact haN'), (H1.out.2.1.okh _ (List.getElem_mem _)).1⟩
                  obtain ⟨l, hla, hlo⟩ : ∃ l, Ls[a]? = some l ∧ OkL l := ⟨_, List.getElem?_eq_getElem (by rw [H1.out.2.1.lL]; exact haN'), H1.out.2.1.okL _ (List.getElem_mem _)⟩
                  have c3 := H2.out.c0
                  have d3' := H2.out.pd hba
                  have HF := hid_of' (frozen_any (H2.out.dk a ba l hba hla) (by omega))
                  cases hfz : (l.any fun r => frozR a r)
                  · rw [hfz] at HF
                    have hnf : ∀ (c : Nat) (r : Rnd), l[c]? = some r → openR r = true → en r.vot a ≠ 1 := fun c r hr ho hv => by
                      have := List.any_eq_false.1 hfz r (List.mem_of_getElem? hr)
                      exact this (by unfold frozR; rw [ho, hv]; rfl)
                    have HNF := hid_of' hnf
                    clear hfz hnf
                    go_upto_region 24 with (go_at_call 26; refine HF.out.mono ?_; rintro e w3 ⟨rfl, hb3⟩; clear HF)
                    clear c3 d3'
                    have H3 := hid_of' (H2.out.later hb3)
                    have HB3 := hid_of' (bgo H1.out.2.2 hb3)
                    have hxb := H1.out.2.1.okh x (List.mem_of_getElem? hxa)
                    have hwr : IntKind.i64.wrap (en x a + 1) = en x a + 1 := by have := hxb.2 a (by omega); rw [IntKind.wrap_i64]; omega
                    clear hb3 hxb
                    refine wp_region_tail 12 (by kernel_rfl) (fun _ => none) (by kernel_rfl) (by kernel_rfl) (by decide) (fun ii u X => match ii with
                      | 0 => u = .pointer (some ⟨P, 0, none⟩)
                      | 1 => u = .pointer (some ⟨P, 0, none⟩)
                      | 2 => u = .pointer (some ⟨P, 1, none⟩)
                      | 3 => u = .slice (some ⟨gh, 0, none⟩) N ch
                      | 4 => u = .int .i64 (a : Int)
                      | 5 => u = .int .i64 (a : Int)
                      | 6 => u = .pointer (some ⟨gh, a * 8, none⟩)
                      | 7 => u = .pointer (some ⟨gh, a * 8 + a, none⟩)
                      | 8 => u = .int .i64 (en x a)
                      | 9 => u = .int .i64 (en x a + 1)
                      | 10 => u = .pointer (some ⟨gh, a * 8, none⟩)
                      | 11 => u = .pointer (some ⟨gh, a * 8 + a, none⟩)
                      | _ => True) (fun _ => false) (fun _ _ _ _ h => by cases h) ?_ ?_ ?_
                    · intro ii u X X' hR hb
                      match ii, hR with
                      | 0, h => exact h
                      | 1, h => exact h
                      | 2, h => exact h
                      | 3, h => exact h
                      | 4, h => exact h
                      | 5, h => exact h
                      | 6, h => exact h
                      | 7, h => exact h
                      | 8, h => exact h
                      | 9, h => exact h
                      | 10, h => exact h
                      | 11, h => exact h
                      | m + 12, h => exact h
                    · intro ii o hi ho qq X vals hX hdep hoth
                      have t5 : qq.tmps[5]? = some (.pointer (some ⟨P, 0, none⟩)) := by rw [hoth 5 (by kernel_rfl)]; rfl
                      have t11 : qq.tmps[11]? = some (.int .i64 (a : Int)) := by rw [hoth 11 (by kernel_rfl)]; rfl
                      match ii, hi, ho with
                      | 0, _, ho =>
                        simp only [List.getElem?_cons_zero, Option.some.injEq] at ho
                        subst ho
                        unfold Oper.wp
                        simp [execOp, go_sem, t5]
                        exact came _ rfl (Below.refl _ _) rfl (fun h => absurd h (by decide))
                      | 1, _, ho =>
                        simp only [List.getElem?_cons_succ, List.getElem?_cons_zero, Option.some.injEq] at ho
                        subst ho
                        obtain ⟨u0, e0⟩ := hdep ⟨0, .data⟩ (by simp) rfl _ 151 rfl rfl
                        rw [show vals 0 = .pointer (some ⟨P, 0, none⟩) from e0] at u0
                        unfold Oper.wp
                        simp [execOp, go_sem, u0]
                        exact came _ rfl (Below.refl _ _) rfl (fun h => absurd h (by decide))
                      | 2, _, ho =>
                        simp only [List.getElem?_cons_succ, List.getElem?_cons_zero, Option.some.injEq] at ho
                        subst ho
                        obtain ⟨u1, e1⟩ := hdep ⟨1, .data⟩ (by simp) rfl _ 152 rfl rfl
                        rw [show vals 1 = .pointer (some ⟨P, 0, none⟩) from e1] at u1
                        unfold Oper.wp
                        simp [execOp, go_sem, u1]
                        exact came _ rfl (Below.refl _ _) rfl (fun h => absurd h (by decide))
                      | 3, _, ho =>
                        simp only [List.getElem?_cons_succ, List.getElem?_cons_zero, Option.some.injEq] at ho
                        subst ho
                        obtain ⟨u2, e2⟩ := hdep ⟨2, .data⟩ (by simp) rfl _ 153 rfl rfl
                        rw [show vals 2 = .pointer (some ⟨P, 1, none⟩) from e2] at u2
                        have cc := (PlAt.later H3.out hX).c1
                        unfold Oper.wp
                        simp [execOp, go_sem, u2, cc]
                        exact came _ rfl (Below.refl _ _) rfl (fun h => absurd h (by decide))
                      | 4, _, ho =>
                        simp only [List.getElem?_cons_succ, List.getElem?_cons_zero, Option.some.injEq] at ho
                        subst ho
                        unfold Oper.wp
                        simp [execOp, go_sem, t11]
                        exact came _ rfl (Below.refl _ _) rfl (fun h => absurd h (by decide))
                      | 5, _, ho =>
                        simp only [List.getElem?_cons_succ, List.getElem?_cons_zero, Option.some.injEq] at ho
                        subst ho
                        unfold Oper.wp
                        simp [execOp, go_sem, t11]
                        exact came _ rfl (Below.refl _ _) rfl (fun h => absurd h (by decide))
                      | 6, _, ho =>
                        simp only [List.getElem?_cons_succ, List.getElem?_cons_zero, Option.some.injEq] at ho
                        subst ho
                        obtain ⟨u3, e3⟩ := hdep ⟨3, .data⟩ (by simp) rfl _ 154 rfl rfl
                        rw [show vals 3 = .slice (some ⟨gh, 0, none⟩) N ch from e3] at u3
                        obtain ⟨u4, e4⟩ := hdep ⟨4, .data⟩ (by simp) rfl _ 155 rfl rfl
                        rw [show vals 4 = .int .i64 (a : Int) from e4] at u4
                        unfold Oper.wp
                        simp [execOp, go_sem, u3, u4, haN]
                        exact came _ rfl (Below.refl _ _) rfl (fun h => absurd h (by decide))
                      | 7, _, ho =>
                        simp only [List.getElem?_cons_succ, List.getElem?_cons_zero, Option.some.injEq] at ho
                        subst ho
                        obtain ⟨u6, e6⟩ := hdep ⟨6, .data⟩ (by simp) rfl _ 157 rfl rfl
                        rw [show vals 6 = .pointer (some ⟨gh, a * 8, none⟩) from e6] at u6
                        obtain ⟨u5, e5⟩ := hdep ⟨5, .data⟩ (by simp) rfl _ 156 rfl rfl
                        rw [show vals 5 = .int .i64 (a : Int) from e5] at u5
                        unfold Oper.wp
                        simp [execOp, go_sem, u6, u5, ha8]
                        exact came _ rfl (Below.refl _ _) rfl (fun h => absurd h (by decide))
                      | 8, _, ho =>
                        simp only [List.getElem?_cons_succ, List.getElem?_cons_zero, Option.some.injEq] at ho
                        subst ho
                        obtain ⟨u7, e7⟩ := hdep ⟨7, .data⟩ (by simp) rfl _ 158 rfl rfl
                        rw [show vals 7 = .pointer (some ⟨gh, a * 8 + a, none⟩) from e7] at u7
                        have cc : X.cell? ⟨gh, a * 8 + a, none⟩ = some (.int .i64 (en x a)) := ((PlAt.later H3.out hX).hin hxa).2 a _ (cv_get (by omega))
                        unfold Oper.wp
                        simp [execOp, go_sem, u7, cc]
                        exact came _ rfl (Below.refl _ _) rfl (fun h => absurd h (by decide))
                      | 9, _, ho =>
                        simp only [List.getElem?_cons_succ, List.getElem?_cons_zero, Option.some.injEq] at ho
                        subst ho
                        obtain ⟨u8, e8⟩ := hdep ⟨8, .data⟩ (by simp) rfl _ 159 rfl rfl
                        rw [show vals 8 = .int .i64 (en x a) from e8] at u8
                        unfold Oper.wp
                        simp [execOp, go_sem, u8, hwr]
                        exact came _ rfl (Below.refl _ _) rfl (fun h => absurd h (by decide))
                      | 10, _, ho =>
                        simp only [List.getElem?_cons_succ, List.getElem?_cons_zero, Option.some.injEq] at ho
                        subst ho
                        obtain ⟨u3, e3⟩ := hdep ⟨3, .data⟩ (by simp) rfl _ 154 rfl rfl
                        rw [show vals 3 = .slice (some ⟨gh, 0, none⟩) N ch from e3] at u3
                        obtain ⟨u4, e4⟩ := hdep ⟨4, .data⟩ (by simp) rfl _ 155 rfl rfl
                        rw [show vals 4 = .int .i64 (a : Int) from e4] at u4
                        unfold Oper.wp
                        simp [execOp, go_sem, u3, u4, haN]
                        exact came _ rfl (Below.refl _ _) rfl (fun h => absurd h (by decide))
                      | 11, _, ho =>
                        simp only [List.getElem?_cons_succ, List.getElem?_cons_zero, Option.some.injEq] at ho
                        subst ho
                        obtain ⟨u10, e10⟩ := hdep ⟨10, .data⟩ (by simp) rfl _ 161 rfl rfl
                        rw [show vals 10 = .pointer (some ⟨gh, a * 8, none⟩) from e10] at u10
                        obtain ⟨u5, e5⟩ := hdep ⟨5, .data⟩ (by simp) rfl _ 156 rfl rfl
                        rw [show vals 5 = .int .i64 (a : Int) from e5] at u5
                        unfold Oper.wp
                        simp [execOp, go_sem, u10, u5, ha8]
                        exact came _ rfl (Below.refl _ _) rfl (fun h => absurd h (by decide))
                      | m + 12, hi, _ => exact absurd hi (by omega)
                    · intro vals X hX hR _
                      have e9 : vals 9 = .int .i64 (en x a + 1) := hR 9 (by decide)
                      have e11 : vals 11 = .pointer (some ⟨gh, a * 8 + a, none⟩) := hR 11 (by decide)
                      have hP3 := PlAt.later H3.out hX
                      have cH := (hP3.hin hxa).2 a _ (cv_get (a := x) (k := a) (by omega))
                      have fH := (hP3.h.there hxa a (by omega)).2
                      obtain ⟨hg, hgb⟩ := hP3.hgo (hP3.h.putC hxa (by omega) (en x a + 1)) ((Ch.refl (fun k => k = gh) X).set (p := ⟨gh, a * 8 + a, none⟩) (.inl rfl) (.int .i64 (en x a + 1)))
                      have H4 := hid_of' (And.intro hg ((bgo HB3.out hX).trans hgb))
                      clear hR hX hP3 hg hgb
                      simp only [List.drop, List.take, putAll, List.setIfInBounds_toArray, List.set_cons_succ, List.set_cons_zero, e9, e11]
                      clear e9 e11
                      go_wp2
                      go_meet
                      case rel => exact ⟨rfl, Ls, _, H4.out.1, H1.out.2.1.act haN' hla hxa HNF.out, H4.out.2⟩
                  · rw [hfz] at HF
                    clear hfz
                    go_wp2_with (go_at_call 26; refine HF.out.mono ?_; rintro e w3 ⟨rfl, hb3⟩; clear HF)
                    go_meet
                    case rel => exact ⟨rfl, Ls, hs, H2.out.later hb3, H1.out.2.1.up, bgo H1.out.2.2 hb3⟩
                · go_upto_region 26 with fail
                  obtain ⟨x, hxa, hx8⟩ : ∃ x, hs[a]? = some x ∧ x.length = 8 := ⟨_, List.getElem?_eq_getElem (by rw [H1.out.2.1.lh]; exact haN'), (H1.out.2.1.okh _ (List.getElem_mem _)).1⟩
                  obtain ⟨y, hyb, hy8⟩ : ∃ x, hs[b]? = some x ∧ x.length = 8 := ⟨_, List.getElem?_eq_getElem (by rw [H1.out.2.1.lh]; exact hbN'), (H1.out.2.1.okh _ (List.getElem_mem _)).1⟩
                  refine wp_region_tail 21 (by kernel_rfl) (fun _ => none) (by kernel_rfl) (by kernel_rfl) (by decide) (fun ii u X => match ii with
                    | 0 => u = .pointer (some ⟨P, 0, none⟩)
                    | 1 => u = .pointer (some ⟨P, 0, none⟩)
                    | 2 => u = .pointer (some ⟨P, 1, none⟩)
                    | 3 => u = .slice (some ⟨gh, 0, none⟩) N ch
                    | 4 => u = .int .i64 (a : Int)
                    | 5 => u = .pointer (some ⟨P, 0, none⟩)
                    | 6 => u = .pointer (some ⟨P, 0, none⟩)
                    | 7 => u = .pointer (some ⟨P, 1, none⟩)
                    | 8 => u = .slice (some ⟨gh, 0, none⟩) N ch
                    | 9 => u = .int .i64 (a : Int)
                    | 10 => u = .pointer (some ⟨gh, a * 8, none⟩)
                    | 11 => u = .agg (cv x)
                    | 12 => u = .pointer (some ⟨P, 0, none⟩)
                    | 13 => u = .pointer (some ⟨P, 0, none⟩)
                    | 14 => u = .pointer (some ⟨P, 1, none⟩)
                    | 15 => u = .slice (some ⟨gh, 0, none⟩) N ch
                    | 16 => u = .int .i64 (b : Int)
                    | 17 => u = .pointer (some ⟨gh, b * 8, none⟩)
                    | 18 => u = .agg (cv y)
                    | 19 => u = .agg (cv (mrg x y))
                    | 20 => u = .pointer (some ⟨gh, a * 8, none⟩)
                    | _ => True) (fun _ => false) (fun _ _ _ _ h => by cases h) ?_ ?_ ?_
                  · intro ii u X X' hR hb
                    match ii, hR with
                    | 0, h => exact h
                    | 1, h => exact h
                    | 2, h => exact h
                    | 3, h => exact h
                    | 4, h => exact h
                    | 5, h => exact h
                    | 6, h => exact h
                    | 7, h => exact h
                    | 8, h => exact h
                    | 9, h => exact h
                    | 10, h => exact h
                    | 11, h => exact h
                    | 12, h => exact h
                    | 13, h => exact h
                    | 14, h => exact h
                    | 15, h => exact h
                    | 16, h => exact h
                    | 17, h => exact h
                    | 18, h => exact h
                    | 19, h => exact h
                    | 20, h => exact h
                    | m + 21, h => exact h
                  · intro ii o hi ho qq X vals hX hdep hoth
                    have t5 : qq.tmps[5]? = some (.pointer (some ⟨P, 0, none⟩)) := by rw [hoth 5 (by kernel_rfl)]; rfl
                    have t11 : qq.tmps[11]? = some (.int .i64 (a : Int)) := by rw [hoth 11 (by kernel_rfl)]; rfl
                    have t12 : qq.tmps[12]? = some (.int .i64 (b : Int)) := by rw [hoth 12 (by kernel_rfl)]; rfl
                    match ii, hi, ho with
                    | 0, _, ho =>
                      simp only [List.getElem?_cons_zero, Option.some.injEq] at ho
                      subst ho
                      unfold Oper.wp
                      simp [execOp, go_sem, t5]
                      exact came _ rfl (Below.refl _ _) rfl (fun h => absurd h (by decide))
                    | 1, _, ho =>
                      simp only [List.getElem?_cons_succ, List.getElem?_cons_zero, Option.some.injEq] at ho
                      subst ho
                      obtain ⟨u0, e0⟩ := hdep ⟨0, .data⟩ (by simp) rfl _ 165 rfl rfl
                      rw [show vals 0 = .pointer (some ⟨P, 0, none⟩) from e0] at u0
                      unfold Oper.wp
                      simp [execOp, go_sem, u0]
                      exact came _ rfl (Below.refl _ _) rfl (fun h => absurd h (by decide))
                    | 2, _, ho =>
                      simp only [List.getElem?_cons_succ, List.getElem?_cons_zero, Option.some.injEq] at ho
                      subst ho
                      obtain ⟨u1, e1⟩ := hdep ⟨1, .data⟩ (by simp) rfl _ 166 rfl rfl
                      rw [show vals 1 = .pointer (some ⟨P, 0, none⟩) from e1] at u1
                      unfold Oper.wp
                      simp [execOp, go_sem, u1]
                      exact came _ rfl (Below.refl _ _) rfl (fun h => absurd h (by decide))
                    | 3, _, ho =>
                      simp only [List.getElem?_cons_succ, List.getElem?_cons_zero, Option.some.injEq] at ho
                      subst ho
                      obtain ⟨u2, e2⟩ := hdep ⟨2, .data⟩ (by simp) rfl _ 167 rfl rfl
                      rw [show vals 2 = .pointer (some ⟨P, 1, none⟩) from e2] at u2
                      have cc := (PlAt.later H2.out hX).c1
                      unfold Oper.wp
                      simp [execOp, go_sem, u2, cc]
                      exact came _ rfl (Below.refl _ _) rfl (fun h => absurd h (by decide))
                    | 4, _, ho =>
                      simp only [List.getElem?_cons_succ, List.getElem?_cons_zero, Option.some.injEq] at ho
                      subst ho
                      unfold Oper.wp
                      simp [execOp, go_sem, t11]
                      exact came _ rfl (Below.refl _ _) rfl (fun h => absurd h (by decide))
                    | 5, _, ho =>
                      simp only [List.getElem?_cons_succ, List.getElem?_cons_zero, Option.some.injEq] at ho
                      subst ho
                      unfold Oper.wp
                      simp [execOp, go_sem, t5]
                      exact came _ rfl (Below.refl _ _) rfl (fun h => absurd h (by decide))
                    | 6, _, ho =>
                      simp only [List.getElem?_cons_succ, List.getElem?_cons_zero, Option.some.injEq] at ho
                      subst ho
                      obtain ⟨u5, e5⟩ := hdep ⟨5, .data⟩ (by simp) rfl _ 170 rfl rfl
                      rw [show vals 5 = .pointer (some ⟨P, 0, none⟩) from e5] at u5
                      unfold Oper.wp
                      simp [execOp, go_sem, u5]
                      exact came _ rfl (Below.refl _ _) rfl (fun h => absurd h (by decide))
                    | 7, _, ho =>
                      simp only [List.getElem?_cons_succ, List.getElem?_cons_zero, Option.some.injEq] at ho
                      subst ho
                      obtain ⟨u6, e6⟩ := hdep ⟨6, .data⟩ (by simp) rfl _ 171 rfl rfl
                      rw [show vals 6 = .pointer (some ⟨P, 0, none⟩) from e6] at u6
                      unfold Oper.wp
                      simp [execOp, go_sem, u6]
                      exact came _ rfl (Below.refl _ _) rfl (fun h => absurd h (by decide))
                    | 8, _, ho =>
                      simp only [List.getElem?_cons_succ, List.getElem?_cons_zero, Option.some.injEq] at ho
                      subst ho
                      obtain ⟨u7, e7⟩ := hdep ⟨7, .data⟩ (by simp) rfl _ 172 rfl rfl
                      rw [show vals 7 = .pointer (some ⟨P, 1, none⟩) from e7] at u7
                      have cc := (PlAt.later H2.out hX).c1
                      unfold Oper.wp
                      simp [execOp, go_sem, u7, cc]
                      exact came _ rfl (Below.refl _ _) rfl (fun h => absurd h (by decide))
                    | 9, _, ho =>
                      simp only [List.getElem?_cons_succ, List.getElem?_cons_zero, Option.some.injEq] at ho
                      subst ho
                      unfold Oper.wp
                      simp [execOp, go_sem, t11]
                      exact came _ rfl (Below.refl _ _) rfl (fun h => absurd h (by decide))
                    | 10, _, ho =>
                      simp only [List.getElem?_cons_succ, List.getElem?_cons_zero, Option.some.injEq] at ho
                      subst ho
                      obtain ⟨u8, e8⟩ := hdep ⟨8, .data⟩ (by simp) rfl _ 173 rfl rfl
                      rw [show vals 8 = .slice (some ⟨gh, 0, none⟩) N ch from e8] at u8
                      obtain ⟨u9, e9⟩ := hdep ⟨9, .data⟩ (by simp) rfl _ 174 rfl rfl
                      rw [show vals 9 = .int .i64 (a : Int) from e9] at u9
                      unfold Oper.wp
                      simp [execOp, go_sem, u8, u9, haN]
                      exact came _ rfl (Below.refl _ _) rfl (fun h => absurd h (by decide))
                    | 11, _, ho =>
                      simp only [List.getElem?_cons_succ, List.getElem?_cons_zero, Option.some.injEq] at ho
                      subst ho
                      obtain ⟨u10, e10⟩ := hdep ⟨10, .data⟩ (by simp) rfl _ 175 rfl rfl
                      rw [show vals 10 = .pointer (some ⟨gh, a * 8, none⟩) from e10] at u10
                      exact opCk hx8 _ rfl (by simp [Act.eval, u10]) ((PlAt.later H2.out hX).hin hxa) (came _ rfl (Below.refl _ _) rfl (fun h => absurd h (by decide)))
                    | 12, _, ho =>
                      simp only [List.getElem?_cons_succ, List.getElem?_cons_zero, Option.some.injEq] at ho
                      subst ho
                      unfold Oper.wp
                      simp [execOp, go_sem, t5]
                      exact came _ rfl (Below.refl _ _) rfl (fun h => absurd h (by decide))
                    | 13, _, ho =>
                      simp only [List.getElem?_cons_succ, List.getElem?_cons_zero, Option.some.injEq] at ho
                      subst ho
                      obtain ⟨u12, e12⟩ := hdep ⟨12, .data⟩ (by simp) rfl _ 177 rfl rfl
                      rw [show vals 12 = .pointer (some ⟨P, 0, none⟩) from e12] at u12
                      unfold Oper.wp
                      simp [execOp, go_sem, u12]
                      exact came _ rfl (Below.refl _ _) rfl (fun h => absurd h (by decide))
                    | 14, _, ho =>
                      simp only [List.getElem?_cons_succ, List.getElem?_cons_zero, Option.some.injEq] at ho
                      subst ho
                      obtain ⟨u13, e13⟩ := hdep ⟨13, .data⟩ (by simp) rfl _ 178 rfl rfl
                      rw [show vals 13 = .pointer (some ⟨P, 0, none⟩) from e13] at u13
                      unfold Oper.wp
                      simp [execOp, go_sem, u13]
                      exact came _ rfl (Below.refl _ _) rfl (fun h => absurd h (by decide))
                    | 15, _, ho =>
                      simp only [List.getElem?_cons_succ, List.getElem?_cons_zero, Option.some.injEq] at ho
                      subst ho
                      obtain ⟨u14, e14⟩ := hdep ⟨14, .data⟩ (by simp) rfl _ 179 rfl rfl
                      rw [show vals 14 = .pointer (some ⟨P, 1, none⟩) from e14] at u14
                      have cc := (PlAt.later H2.out hX).c1
                      unfold Oper.wp
                      simp [execOp, go_sem, u14, cc]
                      exact came _ rfl (Below.refl _ _) rfl (fun h => absurd h (by decide))
                    | 16, _, ho =>
                      simp only [List.getElem?_cons_succ, List.getElem?_cons_zero, Option.some.injEq] at ho
                      subst ho
                      unfold Oper.wp
                      simp [execOp, go_sem, t12]
                      exact came _ rfl (Below.refl _ _) rfl (fun h => absurd h (by decide))
                    | 17, _, ho =>
                      simp only [List.getElem?_cons_succ, List.getElem?_cons_zero, Option.some.injEq] at ho
                      subst ho
                      obtain ⟨u15, e15⟩ := hdep ⟨15, .data⟩ (by simp) rfl _ 180 rfl rfl
                      rw [show vals 15 = .slice (some ⟨gh, 0, none⟩) N ch from e15] at u15
                      obtain ⟨u16, e16⟩ := hdep ⟨16, .data⟩ (by simp) rfl _ 181 rfl rfl
                      rw [show vals 16 = .int .i64 (b : Int) from e16] at u16
                      unfold Oper.wp
                      simp [execOp, go_sem, u15, u16, hbN]
                      exact came _ rfl (Below.refl _ _) rfl (fun h => absurd h (by decide))
                    | 18, _, ho =>
                      simp only [List.getElem?_cons_succ, List.getElem?_cons_zero, Option.some.injEq] at ho
                      subst ho
                      obtain ⟨u17, e17⟩ := hdep ⟨17, .data⟩ (by simp) rfl _ 182 rfl rfl
                      rw [show vals 17 = .pointer (some ⟨gh, b * 8, none⟩) from e17] at u17
                      exact opCk hy8 _ rfl (by simp [Act.eval, u17]) ((PlAt.later H2.out hX).hin hyb) (came _ rfl (Below.refl _ _) rfl (fun h => absurd h (by decide)))
                    | 19, _, ho =>
                      simp only [List.getElem?_cons_succ, List.getElem?_cons_zero, Option.some.injEq] at ho
                      subst ho
                      obtain ⟨u11, e11⟩ := hdep ⟨11, .data⟩ (by simp) rfl _ 176 rfl rfl
                      rw [show vals 11 = .agg (cv x) from e11] at u11
                      obtain ⟨u18, e18⟩ := hdep ⟨18, .data⟩ (by simp) rfl _ 183 rfl rfl
                      rw [show vals 18 = .agg (cv y) from e18] at u18
                      unfold Oper.wp
                      simp [go_sem, u11, u18]
                      refine (refMerge_any x y X hx8 hy8).mono ?_
                      rintro r x1 ⟨rfl, hb1⟩
                      exact came _ rfl hb1 rfl (fun h => absurd h (by decide))
                    | 20, _, ho =>
                      simp only [List.getElem?_cons_succ, List.getElem?_cons_zero, Option.some.injEq] at ho
                      subst ho
                      obtain ⟨u3, e3⟩ := hdep ⟨3, .data⟩ (by simp) rfl _ 168 rfl rfl
                      rw [show vals 3 = .slice (some ⟨gh, 0, none⟩) N ch from e3] at u3
                      obtain ⟨u4, e4⟩ := hdep ⟨4, .data⟩ (by simp) rfl _ 169 rfl rfl
                      rw [show vals 4 = .int .i64 (a : Int) from e4] at u4
                      unfold Oper.wp
                      simp [execOp, go_sem, u3, u4, haN]
                      exact came _ rfl (Below.refl _ _) rfl (fun h => absurd h (by decide))
                    | m + 21, hi, _ => exact absurd hi (by omega)
                  · intro vals X hX hR _
                    have e19 : vals 19 = .agg (cv (mrg x y)) := hR 19 (by decide)
                    have e20 : vals 20 = .pointer (some ⟨gh, a * 8, none⟩) := hR 20 (by decide)
                    have hP3 := PlAt.later H2.out hX
                    have hml := mrg_len hx8 hy8
                    have hth := hP3.h.there hxa
                    obtain ⟨hg, hgb⟩ := hP3.hgo (hP3.h.put hxa hml) (Ch.cells (S := fun k => k = gh) (a := X) (g := gh) (.inl rfl) (cv (mrg x y)).toList (a * 8) X (Ch.refl _ _))
                    have H4 := hid_of' (And.intro hg ((bgo H1.out.2.2 hX).trans hgb))
                    clear hR hX hP3 hg hgb
                    simp only [List.drop, List.take, putAll, List.setIfInBounds_toArray, List.set_cons_succ, List.set_cons_zero, e19, e20]
                    clear e19 e20
                    go_wp2_with (refine wpList_store_mid rfl _ _ _ rfl gh (a * 8) (cv (mrg x y)) rfl rfl (by rw [cv_size, hml]; exact hth) (ck_size hml) (cv_one _) ?_)
                    go_meet
                    case rel => exact ⟨rfl, Ls, _, H4.out.1, H1.out.2.1.take haN' hbN' hxa hyb, H4.out.2⟩
                · obtain ⟨sa, sc, hvs⟩ := H2.out.sform
                  obtain ⟨Ms, hMs⟩ : ∃ M, Ss.length = M := ⟨_, rfl⟩
                  rw [hMs] at hvs
                  by_cases hM0 : 0 < Ms
                  · obtain ⟨gs, sc', hvs2⟩ := H2.out.spos (by rw [hMs]; exact hM0)
                    rw [hMs] at hvs2
                    clear hvs
                    subst hvs2
                    have H2' := H2
                    clear H2
                    have c16 := H2'.out.c2
                    have hMi : 0 < (Ms : Int) := by omega
                    have hM1 : Ms ≤ 100000 := by have := HSk.out; omega
                    obtain ⟨j, hj⟩ : ∃ j, wiN d3 Ms = j := ⟨_, rfl⟩
                    have hjM' : j < Ms := hj ▸ wiN_lt hM0
                    have hjM : (j : Int) < (Ms : Int) := by omega
                    have HWj : Hid (∀ X : World, Calls Tryd.prog 23 #[.int .i64 d3, .int .i64 (Ms : Int)] X fun r w' => r = .returned (.int .i64 (j : Int)) ∧ w' = X) := fun X => by rw [← hj]; exact within_is d3 Ms X hM0 (by omega) HFt.out.2.2.2
                    obtain ⟨m, hmj, om⟩ : ∃ m, Ss[j]? = some m ∧ OkL m := ⟨_, List.getElem?_eq_getElem (by rw [hMs]; exact hjM'), H1.out.2.1.okS _ (List.getElem_mem _)⟩
                    clear hj hM0
                    have HMM := hid_of' hMs
                    clear hMs
                    go_upto_region 17 with fail
                    clear c16
                    refine wp_region_tail 21 (by kernel_rfl) (fun _ => none) (by kernel_rfl) (by kernel_rfl) (by decide) (fun ii u X => match ii with
                      | 0 => u = .pointer (some ⟨P, 0, none⟩)
                      | 1 => u = .pointer (some ⟨P, 0, none⟩)
                      | 2 => u = .pointer (some ⟨P, 0, none⟩)
                      | 3 => u = .slice (some ⟨gd, 0, none⟩) N cd
                      | 4 => u = .int .i64 (a : Int)
                      | 5 => u = .pointer (some ⟨gd, a, none⟩)
                      | 6 => u = .pointer (some ⟨ba, 0, none⟩)
                      | 7 => u = .pointer (some ⟨P, 0, none⟩)
                      | 8 => u = .pointer (some ⟨P, 0, none⟩)
                      | 9 => u = .pointer (some ⟨P, 2, none⟩)
                      | 10 => u = .slice (some ⟨gs, 0, none⟩) Ms sc'
                      | 11 => u = .pointer (some ⟨mb, 3, none⟩)
                      | 12 => u = .int .i64 d3
                      | 13 => u = .pointer (some ⟨P, 0, none⟩)
                      | 14 => u = .pointer (some ⟨P, 0, none⟩)
                      | 15 => u = .pointer (some ⟨P, 2, none⟩)
                      | 16 => u = .slice (some ⟨gs, 0, none⟩) Ms sc'
                      | 17 => u = .int .i64 (Ms : Int)
                      | 18 => u = .int .i64 (j : Int)
                      | 19 => u = .pointer (some ⟨gs, j * 144, none⟩)
                      | 20 => u = .agg (cv (rs m))
                      | _ => True) (fun _ => false) (fun _ _ _ _ h => by cases h) ?_ ?_ ?_
                    · intro ii u X X' hR hb
                      match ii, hR with
                      | 0, h => exact h
                      | 1, h => exact h
                      | 2, h => exact h
                      | 3, h => exact h
                      | 4, h => exact h
                      | 5, h => exact h
                      | 6, h => exact h
                      | 7, h => exact h
                      | 8, h => exact h
                      | 9, h => exact h
                      | 10, h => exact h
                      | 11, h => exact h
                      | 12, h => exact h
                      | 13, h => exact h
                      | 14, h => exact h
                      | 15, h => exact h
                      | 16, h => exact h
                      | 17, h => exact h
                      | 18, h => exact h
                      | 19, h => exact h
                      | 20, h => exact h
                      | m + 21, h => exact h
                    · intro ii o hi ho qq X vals hX hdep hoth
                      have t5 : qq.tmps[5]? = some (.pointer (some ⟨P, 0, none⟩)) := by rw [hoth 5 (by kernel_rfl)]; rfl
                      have t11 : qq.tmps[11]? = some (.int .i64 (a : Int)) := by rw [hoth 11 (by kernel_rfl)]; rfl
                      have t10 : qq.tmps[10]? = some (.pointer (some ⟨mb, 0, none⟩)) := by rw [hoth 10 (by kernel_rfl)]; rfl
                      match ii, hi, ho with
                      | 0, _, ho =>
                        simp only [List.getElem?_cons_zero, Option.some.injEq] at ho
                        subst ho
                        unfold Oper.wp
                        simp [execOp, go_sem, t5]
                        exact came _ rfl (Below.refl _ _) rfl (fun h => absurd h (by decide))
                      | 1, _, ho =>
                        simp only [List.getElem?_cons_succ, List.getElem?_cons_zero, Option.some.injEq] at ho
                        subst ho
                        obtain ⟨u0, e0⟩ := hdep ⟨0, .data⟩ (by simp) rfl _ 83 rfl rfl
                        rw [show vals 0 = .pointer (some ⟨P, 0, none⟩) from e0] at u0
                        unfold Oper.wp
                        simp [execOp, go_sem, u0]
                        exact came _ rfl (Below.refl _ _) rfl (fun h => absurd h (by decide))
                      | 2, _, ho =>
                        simp only [List.getElem?_cons_succ, List.getElem?_cons_zero, Option.some.injEq] at ho
                        subst ho
                        obtain ⟨u1, e1⟩ := hdep ⟨1, .data⟩ (by simp) rfl _ 84 rfl rfl
                        rw [show vals 1 = .pointer (some ⟨P, 0, none⟩) from e1] at u1
                        unfold Oper.wp
                        simp [execOp, go_sem, u1]
                        exact came _ rfl (Below.refl _ _) rfl (fun h => absurd h (by decide))
                      | 3, _, ho =>
                        simp only [List.getElem?_cons_succ, List.getElem?_cons_zero, Option.some.injEq] at ho
                        subst ho
                        obtain ⟨u2, e2⟩ := hdep ⟨2, .data⟩ (by simp) rfl _ 85 rfl rfl
                        rw [show vals 2 = .pointer (some ⟨P, 0, none⟩) from e2] at u2
                        have cc := (PlAt.later H2'.out hX).c0
                        unfold Oper.wp
                        simp [execOp, go_sem, u2, cc]
                        exact came _ rfl (Below.refl _ _) rfl (fun h => absurd h (by decide))
                      | 4, _, ho =>
                        simp only [List.getElem?_cons_succ, List.getElem?_cons_zero, Option.some.injEq] at ho
                        subst ho
                        unfold Oper.wp
                        simp [execOp, go_sem, t11]
                        exact came _ rfl (Below.refl _ _) rfl (fun h => absurd h (by decide))
                      | 5, _, ho =>
                        simp only [List.getElem?_cons_succ, List.getElem?_cons_zero, Option.some.injEq] at ho
                        subst ho
                        obtain ⟨u3, e3⟩ := hdep ⟨3, .data⟩ (by simp) rfl _ 86 rfl rfl
                        rw [show vals 3 = .slice (some ⟨gd, 0, none⟩) N cd from e3] at u3
                        obtain ⟨u4, e4⟩ := hdep ⟨4, .data⟩ (by simp) rfl _ 87 rfl rfl
                        rw [show vals 4 = .int .i64 (a : Int) from e4] at u4
                        unfold Oper.wp
                        simp [execOp, go_sem, u3, u4, haN]
                        exact came _ rfl (Below.refl _ _) rfl (fun h => absurd h (by decide))
                      | 6, _, ho =>
                        simp only [List.getElem?_cons_succ, List.getElem?_cons_zero, Option.some.injEq] at ho
                        subst ho
                        obtain ⟨u5, e5⟩ := hdep ⟨5, .data⟩ (by simp) rfl _ 88 rfl rfl
                        rw [show vals 5 = .pointer (some ⟨gd, a, none⟩) from e5] at u5
                        have cc := (PlAt.later H2'.out hX).pd hba
                        unfold Oper.wp
                        simp [execOp, go_sem, u5, cc]
                        exact came _ rfl (Below.refl _ _) rfl (fun h => absurd h (by decide))
                      | 7, _, ho =>
                        simp only [List.getElem?_cons_succ, List.getElem?_cons_zero, Option.some.injEq] at ho
                        subst ho
                        unfold Oper.wp
                        simp [execOp, go_sem, t5]
                        exact came _ rfl (Below.refl _ _) rfl (fun h => absurd h (by decide))
                      | 8, _, ho =>
                        simp only [List.getElem?_cons_succ, List.getElem?_cons_zero, Option.some.injEq] at ho
                        subst ho
                        obtain ⟨u7, e7⟩ := hdep ⟨7, .data⟩ (by simp) rfl _ 90 rfl rfl
                        rw [show vals 7 = .pointer (some ⟨P, 0, none⟩) from e7] at u7
                        unfold Oper.wp
                        simp [execOp, go_sem, u7]
                        exact came _ rfl (Below.refl _ _) rfl (fun h => absurd h (by decide))
                      | 9, _, ho =>
                        simp only [List.getElem?_cons_succ, List.getElem?_cons_zero, Option.some.injEq] at ho
                        subst ho
                        obtain ⟨u8, e8⟩ := hdep ⟨8, .data⟩ (by simp) rfl _ 91 rfl rfl
                        rw [show vals 8 = .pointer (some ⟨P, 0, none⟩) from e8] at u8
                        unfold Oper.wp
                        simp [execOp, go_sem, u8]
                        exact came _ rfl (Below.refl _ _) rfl (fun h => absurd h (by decide))
                      | 10, _, ho =>
                        simp only [List.getElem?_cons_succ, List.getElem?_cons_zero, Option.some.injEq] at ho
                        subst ho
                        obtain ⟨u9, e9⟩ := hdep ⟨9, .data⟩ (by simp) rfl _ 92 rfl rfl
                        rw [show vals 9 = .pointer (some ⟨P, 2, none⟩) from e9] at u9
                        have cc := (PlAt.later H2'.out hX).c2
                        unfold Oper.wp
                        simp [execOp, go_sem, u9, cc]
                        exact came _ rfl (Below.refl _ _) rfl (fun h => absurd h (by decide))
                      | 11, _, ho =>
                        simp only [List.getElem?_cons_succ, List.getElem?_cons_zero, Option.some.injEq] at ho
                        subst ho
                        unfold Oper.wp
                        simp [execOp, go_sem, t10]
                        exact came _ rfl (Below.refl _ _) rfl (fun h => absurd h (by decide))
                      | 12, _, ho =>
                        simp only [List.getElem?_cons_succ, List.getElem?_cons_zero, Option.some.injEq] at ho
                        subst ho
                        obtain ⟨u11, e11⟩ := hdep ⟨11, .data⟩ (by simp) rfl _ 94 rfl rfl
                        rw [show vals 11 = .pointer (some ⟨mb, 3, none⟩) from e11] at u11
                        have cc : X.cell? ⟨mb, 3, none⟩ = some (.int .i64 d3) := (RowAt.later HM.out hX).cell 3
                        unfold Oper.wp
                        simp [execOp, go_sem, u11, cc]
                        exact came _ rfl (Below.refl _ _) rfl (fun h => absurd h (by decide))
                      | 13, _, ho =>
                        simp only [List.getElem?_cons_succ, List.getElem?_cons_zero, Option.some.injEq] at ho
                        subst ho
                        unfold Oper.wp
                        simp [execOp, go_sem, t5]
                        exact came _ rfl (Below.refl _ _) rfl (fun h => absurd h (by decide))
                      | 14, _, ho =>
                        simp only [List.getElem?_cons_succ, List.getElem?_cons_zero, Option.some.injEq] at ho
                        subst ho
                        obtain ⟨u13, e13⟩ := hdep ⟨13, .data⟩ (by simp) rfl _ 96 rfl rfl
                        rw [show vals 13 = .pointer (some ⟨P, 0, none⟩) from e13] at u13
                        unfold Oper.wp
                        simp [execOp, go_sem, u13]
                        exact came _ rfl (Below.refl _ _) rfl (fun h => absurd h (by decide))
                      | 15, _, ho =>
                        simp only [List.getElem?_cons_succ, List.getElem?_cons_zero, Option.some.injEq] at ho
                        subst ho
                        obtain ⟨u14, e14⟩ := hdep ⟨14, .data⟩ (by simp) rfl _ 97 rfl rfl
                        rw [show vals 14 = .pointer (some ⟨P, 0, none⟩) from e14] at u14
                        unfold Oper.wp
                        simp [execOp, go_sem, u14]
                        exact came _ rfl (Below.refl _ _) rfl (fun h => absurd h (by decide))
                      | 16, _, ho =>
                        simp only [List.getElem?_cons_succ, List.getElem?_cons_zero, Option.some.injEq] at ho
                        subst ho
                        obtain ⟨u15, e15⟩ := hdep ⟨15, .data⟩ (by simp) rfl _ 98 rfl rfl
                        rw [show vals 15 = .pointer (some ⟨P, 2, none⟩) from e15] at u15
                        have cc := (PlAt.later H2'.out hX).c2
                        unfold Oper.wp
                        simp [execOp, go_sem, u15, cc]
                        exact came _ rfl (Below.refl _ _) rfl (fun h => absurd h (by decide))
                      | 17, _, ho =>
                        simp only [List.getElem?_cons_succ, List.getElem?_cons_zero, Option.some.injEq] at ho
                        subst ho
                        obtain ⟨u16, e16⟩ := hdep ⟨16, .data⟩ (by simp) rfl _ 99 rfl rfl
                        rw [show vals 16 = .slice (some ⟨gs, 0, none⟩) Ms sc' from e16] at u16
                        unfold Oper.wp
                        simp [go_sem, u16]
                        exact came _ rfl (Below.refl _ _) rfl (fun h => absurd h (by decide))
                      | 18, _, ho =>
                        simp only [List.getElem?_cons_succ, List.getElem?_cons_zero, Option.some.injEq] at ho
                        subst ho
                        obtain ⟨u12, e12⟩ := hdep ⟨12, .data⟩ (by simp) rfl _ 95 rfl rfl
                        rw [show vals 12 = .int .i64 d3 from e12] at u12
                        obtain ⟨u17, e17⟩ := hdep ⟨17, .data⟩ (by simp) rfl _ 100 rfl rfl
                        rw [show vals 17 = .int .i64 (Ms : Int) from e17] at u17
                        unfold Oper.wp
                        simp [go_sem, u12, u17]
                        refine (HWj.out X).mono ?_
                        rintro r x1 ⟨rfl, hw⟩; obtain rfl := hw; have hb1 := Below.refl x1.heap.size x1
                        exact came _ rfl hb1 rfl (fun h => absurd h (by decide))
                      | 19, _, ho =>
                        simp only [List.getElem?_cons_succ, List.getElem?_cons_zero, Option.some.injEq] at ho
                        subst ho
                        obtain ⟨u10, e10⟩ := hdep ⟨10, .data⟩ (by simp) rfl _ 93 rfl rfl
                        rw [show vals 10 = .slice (some ⟨gs, 0, none⟩) Ms sc' from e10] at u10
                        obtain ⟨u18, e18⟩ := hdep ⟨18, .data⟩ (by simp) rfl _ 101 rfl rfl
                        rw [show vals 18 = .int .i64 (j : Int) from e18] at u18
                        unfold Oper.wp
                        simp [execOp, go_sem, u10, u18, hjM]
                        exact came _ rfl (Below.refl _ _) rfl (fun h => absurd h (by decide))
                      | 20, _, ho =>
                        simp only [List.getElem?_cons_succ, List.getElem?_cons_zero, Option.some.injEq] at ho
                        subst ho
                        obtain ⟨u19, e19⟩ := hdep ⟨19, .data⟩ (by simp) rfl _ 102 rfl rfl
                        rw [show vals 19 = .pointer (some ⟨gs, j * 144, none⟩) from e19] at u19
                        exact opRnds om _ rfl (by simp [Act.eval, u19]) ((PlAt.later H2'.out hX).sin hmj) (came _ rfl (Below.refl _ _) rfl (fun h => absurd h (by decide)))
                      | m + 21, hi, _ => exact absurd hi (by omega)
                    · intro vals X hX hR _
                      have e6 : vals 6 = .pointer (some ⟨ba, 0, none⟩) := hR 6 (by decide)
                      have e20 : vals 20 = .agg (cv (rs m)) := hR 20 (by decide)
                      obtain ⟨l, hla, hlo⟩ : ∃ l, Ls[a]? = some l ∧ OkL l := ⟨_, List.getElem?_eq_getElem (by rw [H1.out.2.1.lL]; exact haN'), H1.out.2.1.okL _ (List.getElem_mem _)⟩
                      have HX := hid_of' hX
                      clear hR hX
                      simp only [List.drop, List.take, putAll, List.setIfInBounds_toArray, List.set_cons_succ, List.set_cons_zero, e6, e20]
                      clear e6 e20
                      have HP := hid_of' (deskJoin_any ((PlAt.later H2'.out HX.out).dk a ba l hba hla) om)
                      go_wp2_with (go_at_call 38; refine HP.out.mono ?_; rintro e W4 ⟨rfl, hd4, hc4⟩; clear HP)
                      go_meet
                      case rel => exact ⟨rfl, _, hs, (PlAt.later H2'.out HX.out).desk hba hd4 hc4, (H1.out.2.1.join haN' hla (.inr (List.mem_of_getElem? hmj))).up, (bgo H1.out.2.2 HX.out).trans ((PlAt.later H2'.out HX.out).below (List.mem_of_getElem? hba) hc4)⟩
                  · have hM1 : Ms = 0 := by omega
                    rw [hM1] at hvs
                    subst hvs
                    have H2' := H2
                    clear H2 hMs hM1 hM0
                    have c16 := H2'.out.c2
                    go_wp2
                    go_meet
                    case rel => exact ⟨rfl, Ls, hs, H2'.out, H1.out.2.1.up, H1.out.2.2⟩
              case rest =>
                obtain ⟨rfl, Ls1, hs1, hpl4, hpi4, hB4⟩ := hcut
                rename World => W4
                have H4 := hid_of' (And.intro hpl4 (And.intro hpi4 hB4))
                clear hpl4 hpi4 hB4 H1 H2 HM hd5
                obtain ⟨l, hla, hlo⟩ : ∃ l, Ls1[a]? = some l ∧ OkL l := ⟨_, List.getElem?_eq_getElem (by rw [H4.out.2.1.lL]; exact haN'), H4.out.2.1.okL _ (List.getElem_mem _)⟩
                obtain ⟨x, hxa, hx8⟩ : ∃ x, hs1[a]? = some x ∧ x.length = 8 := ⟨_, List.getElem?_eq_getElem (by rw [H4.out.2.1.lh]; exact haN'), (H4.out.2.1.okh _ (List.getElem_mem _)).1⟩
                have H5 := hid_of' H4.out.1
                go_upto_region 27 with fail
                refine wp_region_tail 14 (by kernel_rfl) (fun _ => none) (by kernel_rfl) (by kernel_rfl) (by decide) (fun ii u X => match ii with
                  | 0 => u = .pointer (some ⟨P, 0, none⟩)
                  | 1 => u = .pointer (some ⟨P, 0, none⟩)
                  | 2 => u = .pointer (some ⟨P, 0, none⟩)
                  | 3 => u = .slice (some ⟨gd, 0, none⟩) N cd
                  | 4 => u = .int .i64 (a : Int)
                  | 5 => u = .pointer (some ⟨gd, a, none⟩)
                  | 6 => u = .pointer (some ⟨ba, 0, none⟩)
                  | 7 => u = .pointer (some ⟨P, 0, none⟩)
                  | 8 => u = .pointer (some ⟨P, 0, none⟩)
                  | 9 => u = .pointer (some ⟨P, 1, none⟩)
                  | 10 => u = .slice (some ⟨gh, 0, none⟩) N ch
                  | 11 => u = .int .i64 (a : Int)
                  | 12 => u = .pointer (some ⟨gh, a * 8, none⟩)
                  | 13 => u = .agg (cv x)
                  | _ => True) (fun _ => false) (fun _ _ _ _ h => by cases h) ?_ ?_ ?_
                · intro ii u X X' hR hb
                  match ii, hR with
                  | 0, h => exact h
                  | 1, h => exact h
                  | 2, h => exact h
                  | 3, h => exact h
                  | 4, h => exact h
                  | 5, h => exact h
                  | 6, h => exact h
                  | 7, h => exact h
                  | 8, h => exact h
                  | 9, h => exact h
                  | 10, h => exact h
                  | 11, h => exact h
                  | 12, h => exact h
                  | 13, h => exact h
                  | m + 14, h => exact h
                · intro ii o hi ho qq X vals hX hdep hoth
                  have t5 : qq.tmps[5]? = some (.pointer (some ⟨P, 0, none⟩)) := by rw [hoth 5 (by kernel_rfl)]; rfl
                  have t11 : qq.tmps[11]? = some (.int .i64 (a : Int)) := by rw [hoth 11 (by kernel_rfl)]; rfl
                  match ii, hi, ho with
                  | 0, _, ho =>
                    simp only [List.getElem?_cons_zero, Option.some.injEq] at ho
                    subst ho
                    unfold Oper.wp
                    simp [execOp, go_sem, t5]
                    exact came _ rfl (Below.refl _ _) rfl (fun h => absurd h (by decide))
                  | 1, _, ho =>
                    simp only [List.getElem?_cons_succ, List.getElem?_cons_zero, Option.some.injEq] at ho
                    subst ho
                    obtain ⟨u0, e0⟩ := hdep ⟨0, .data⟩ (by simp) rfl _ 186 rfl rfl
                    rw [show vals 0 = .pointer (some ⟨P, 0, none⟩) from e0] at u0
                    unfold Oper.wp
                    simp [execOp, go_sem, u0]
                    exact came _ rfl (Below.refl _ _) rfl (fun h => absurd h (by decide))
                  | 2, _, ho =>
                    simp only [List.getElem?_cons_succ, List.getElem?_cons_zero, Option.some.injEq] at ho
                    subst ho
                    obtain ⟨u1, e1⟩ := hdep ⟨1, .data⟩ (by simp) rfl _ 187 rfl rfl
                    rw [show vals 1 = .pointer (some ⟨P, 0, none⟩) from e1] at u1
                    unfold Oper.wp
                    simp [execOp, go_sem, u1]
                    exact came _ rfl (Below.refl _ _) rfl (fun h => absurd h (by decide))
                  | 3, _, ho =>
                    simp only [List.getElem?_cons_succ, List.getElem?_cons_zero, Option.some.injEq] at ho
                    subst ho
                    obtain ⟨u2, e2⟩ := hdep ⟨2, .data⟩ (by simp) rfl _ 188 rfl rfl
                    rw [show vals 2 = .pointer (some ⟨P, 0, none⟩) from e2] at u2
                    have cc := (PlAt.later H5.out hX).c0
                    unfold Oper.wp
                    simp [execOp, go_sem, u2, cc]
                    exact came _ rfl (Below.refl _ _) rfl (fun h => absurd h (by decide))
                  | 4, _, ho =>
                    simp only [List.getElem?_cons_succ, List.getElem?_cons_zero, Option.some.injEq] at ho
                    subst ho
                    unfold Oper.wp
                    simp [execOp, go_sem, t11]
                    exact came _ rfl (Below.refl _ _) rfl (fun h => absurd h (by decide))
                  | 5, _, ho =>
                    simp only [List.getElem?_cons_succ, List.getElem?_cons_zero, Option.some.injEq] at ho
                    subst ho
                    obtain ⟨u3, e3⟩ := hdep ⟨3, .data⟩ (by simp) rfl _ 189 rfl rfl
                    rw [show vals 3 = .slice (some ⟨gd, 0, none⟩) N cd from e3] at u3
                    obtain ⟨u4, e4⟩ := hdep ⟨4, .data⟩ (by simp) rfl _ 190 rfl rfl
                    rw [show vals 4 = .int .i64 (a : Int) from e4] at u4
                    unfold Oper.wp
                    simp [execOp, go_sem, u3, u4, haN]
                    exact came _ rfl (Below.refl _ _) rfl (fun h => absurd h (by decide))
                  | 6, _, ho =>
                    simp only [List.getElem?_cons_succ, List.getElem?_cons_zero, Option.some.injEq] at ho
                    subst ho
                    obtain ⟨u5, e5⟩ := hdep ⟨5, .data⟩ (by simp) rfl _ 191 rfl rfl
                    rw [show vals 5 = .pointer (some ⟨gd, a, none⟩) from e5] at u5
                    have cc := (PlAt.later H5.out hX).pd hba
                    unfold Oper.wp
                    simp [execOp, go_sem, u5, cc]
                    exact came _ rfl (Below.refl _ _) rfl (fun h => absurd h (by decide))
                  | 7, _, ho =>
                    simp only [List.getElem?_cons_succ, List.getElem?_cons_zero, Option.some.injEq] at ho
                    subst ho
                    unfold Oper.wp
                    simp [execOp, go_sem, t5]
                    exact came _ rfl (Below.refl _ _) rfl (fun h => absurd h (by decide))
                  | 8, _, ho =>
                    simp only [List.getElem?_cons_succ, List.getElem?_cons_zero, Option.some.injEq] at ho
                    subst ho
                    obtain ⟨u7, e7⟩ := hdep ⟨7, .data⟩ (by simp) rfl _ 193 rfl rfl
                    rw [show vals 7 = .pointer (some ⟨P, 0, none⟩) from e7] at u7
                    unfold Oper.wp
                    simp [execOp, go_sem, u7]
                    exact came _ rfl (Below.refl _ _) rfl (fun h => absurd h (by decide))
                  | 9, _, ho =>
                    simp only [List.getElem?_cons_succ, List.getElem?_cons_zero, Option.some.injEq] at ho
                    subst ho
                    obtain ⟨u8, e8⟩ := hdep ⟨8, .data⟩ (by simp) rfl _ 194 rfl rfl
                    rw [show vals 8 = .pointer (some ⟨P, 0, none⟩) from e8] at u8
                    unfold Oper.wp
                    simp [execOp, go_sem, u8]
                    exact came _ rfl (Below.refl _ _) rfl (fun h => absurd h (by decide))
                  | 10, _, ho =>
                    simp only [List.getElem?_cons_succ, List.getElem?_cons_zero, Option.some.injEq] at ho
                    subst ho
                    obtain ⟨u9, e9⟩ := hdep ⟨9, .data⟩ (by simp) rfl _ 195 rfl rfl
                    rw [show vals 9 = .pointer (some ⟨P, 1, none⟩) from e9] at u9
                    have cc := (PlAt.later H5.out hX).c1
                    unfold Oper.wp
                    simp [execOp, go_sem, u9, cc]
                    exact came _ rfl (Below.refl _ _) rfl (fun h => absurd h (by decide))
                  | 11, _, ho =>
                    simp only [List.getElem?_cons_succ, List.getElem?_cons_zero, Option.some.injEq] at ho
                    subst ho
                    unfold Oper.wp
                    simp [execOp, go_sem, t11]
                    exact came _ rfl (Below.refl _ _) rfl (fun h => absurd h (by decide))
                  | 12, _, ho =>
                    simp only [List.getElem?_cons_succ, List.getElem?_cons_zero, Option.some.injEq] at ho
                    subst ho
                    obtain ⟨u10, e10⟩ := hdep ⟨10, .data⟩ (by simp) rfl _ 196 rfl rfl
                    rw [show vals 10 = .slice (some ⟨gh, 0, none⟩) N ch from e10] at u10
                    obtain ⟨u11, e11⟩ := hdep ⟨11, .data⟩ (by simp) rfl _ 197 rfl rfl
                    rw [show vals 11 = .int .i64 (a : Int) from e11] at u11
                    unfold Oper.wp
                    simp [execOp, go_sem, u10, u11, haN]
                    exact came _ rfl (Below.refl _ _) rfl (fun h => absurd h (by decide))
                  | 13, _, ho =>
                    simp only [List.getElem?_cons_succ, List.getElem?_cons_zero, Option.some.injEq] at ho
                    subst ho
                    obtain ⟨u12, e12⟩ := hdep ⟨12, .data⟩ (by simp) rfl _ 198 rfl rfl
                    rw [show vals 12 = .pointer (some ⟨gh, a * 8, none⟩) from e12] at u12
                    exact opCk hx8 _ rfl (by simp [Act.eval, u12]) ((PlAt.later H5.out hX).hin hxa) (came _ rfl (Below.refl _ _) rfl (fun h => absurd h (by decide)))
                  | m + 14, hi, _ => exact absurd hi (by omega)
                · intro vals X hX hR _
                  have e6 : vals 6 = .pointer (some ⟨ba, 0, none⟩) := hR 6 (by decide)
                  have e13 : vals 13 = .agg (cv x) := hR 13 (by decide)
                  have HS := hid_of' (settle_any (N := N) (s := a) (hv := x) ((PlAt.later H5.out hX).dk a ba l hba hla) (by omega) h8 hx8)
                  have HX := hid_of' hX
                  clear hR hX
                  simp only [List.drop, List.take, putAll, List.setIfInBounds_toArray, List.set_cons_succ, List.set_cons_zero, e6, e13]
                  clear e6 e13
                  go_upto_region 28 with (go_at_call 35; refine HS.out.mono ?_; rintro e W6 ⟨rfl, hd6, hc6⟩; clear HS)
                  have om := setK_ok (n := N) (s := a) (hv := x) hlo N
                  have hst := H4.out.2.1.settle haN' hla hxa om (fun c r hr => by rw [setK_get hr, goneR_stl (by omega) (by omega)])
                  obtain ⟨m, hm⟩ : ∃ m, setK N a x l N = m := ⟨_, rfl⟩
                  rw [hm] at om hd6 hst
                  have hdesk := (PlAt.later H5.out HX.out).desk hba hd6 hc6
                  have H6 : Hid (PlAt w.heap.size P N ds (.slice (some ⟨gd, 0, none⟩) N cd) (.slice (some ⟨gh, 0, none⟩) N ch) vs (Ls1.set a m) hs1 Ss W6 ∧ Below w.heap.size w W6) := ⟨hdesk, (bgo H4.out.2.2 HX.out).trans ((PlAt.later H5.out HX.out).below (List.mem_of_getElem? hba) hc6)⟩
                  have HST := hid_of' hst
                  have hma : (Ls1.set a m)[a]? = some m := by rw [List.getElem?_set, if_pos rfl, if_pos (by rw [H4.out.2.1.lL]; exact haN')]
                  clear hdesk hst hd6 hc6 hm HX
                  obtain ⟨Ms, hMs⟩ : ∃ M, Ss.length = M := ⟨_, rfl⟩
                  have HMs : Hid (Ss.length ≤ 100000) := by have := HSk.out; unfold Hid; omega
                  obtain ⟨sa, sc, hvs⟩ := H6.out.1.sform
                  rw [hMs] at hvs
                  rw [hvs] at H6
                  have HV : Hid (∀ k, Value.ownBlock (.slice sa Ms sc) = some k → k < W6.heap.size) := fun k hk => H6.out.1.s.1.lt k hk
                  refine wp_region_once 17 (by kernel_rfl) (fun _ => none) (by kernel_rfl) (by kernel_rfl) (by decide) (fun ii u X => match ii with
                    | 0 => u = .pointer (some ⟨P, 0, none⟩)
                    | 1 => u = .pointer (some ⟨P, 0, none⟩)
                    | 2 => u = .pointer (some ⟨P, 0, none⟩)
                    | 3 => u = .pointer (some ⟨P, 2, none⟩)
                    | 4 => u = .slice sa Ms sc
                    | 5 => u = .pointer (some ⟨P, 0, none⟩)
                    | 6 => u = .pointer (some ⟨P, 0, none⟩)
                    | 7 => u = .pointer (some ⟨P, 0, none⟩)
                    | 8 => u = .slice (some ⟨gd, 0, none⟩) N cd
                    | 9 => u = .int .i64 (a : Int)
                    | 10 => u = .pointer (some ⟨gd, a, none⟩)
                    | 11 => u = .pointer (some ⟨ba, 0, none⟩)
                    | 12 => u = .agg (cv (rs m))
                    | 13 => ∃ gz, u = .slice (some ⟨gz, 0, none⟩) 1 1 ∧ W6.heap.size ≤ gz ∧ RowAt gz (cv (rs m)) 46 X
                    | 14 => RwI 46 144 u (Ss.map rs ++ [rs m]) X ∧ At' W6 (.slice sa Ms sc) u
                    | 15 => u = .pointer (some ⟨P, 0, none⟩)
                    | 16 => u = .pointer (some ⟨P, 2, none⟩)
                    | _ => True) (fun _ => false) (fun _ _ _ _ h => by cases h) 14 (by decide) (fun a b => World.grownBy a b (Value.ownBlock (.slice sa Ms sc))) (fun a b => World.grownBy a b (Value.ownBlock (.slice sa Ms sc))) (fun _ _ g h => grown_later g h) (fun _ h => grown_of h) (fun _ _ h g => grown_first h g) (fun _ _ g => g.size) ?_ ?_ ?_ ?_
                  · intro ii u X X' hR hb
                    match ii, hR with
                    | 0, h => exact h
                    | 1, h => exact h
                    | 2, h => exact h
                    | 3, h => exact h
                    | 4, h => exact h
                    | 5, h => exact h
                    | 6, h => exact h
                    | 7, h => exact h
                    | 8, h => exact h
                    | 9, h => exact h
                    | 10, h => exact h
                    | 11, h => exact h
                    | 12, h => exact h
                    | 13, h => exact (by obtain ⟨gz, h1, h2, h3⟩ := h; exact ⟨gz, h1, h2, h3.later hb⟩)
                    | 14, h => exact ⟨h.1.later hb, h.2⟩
                    | 15, h => exact h
                    | 16, h => exact h
                    | m + 17, h => exact h
                  · intro ii u X X' hne hR hb
                    match ii, hne, hR with
                    | 0, hne, h => exact h
                    | 1, hne, h => exact h
                    | 2, hne, h => exact h
                    | 3, hne, h => exact h
                    | 4, hne, h => exact h
                    | 5, hne, h => exact h
                    | 6, hne, h => exact h
                    | 7, hne, h => exact h
                    | 8, hne, h => exact h
                    | 9, hne, h => exact h
                    | 10, hne, h => exact h
                    | 11, hne, h => exact h
                    | 12, hne, h => exact h
                    | 13, hne, h => exact (by obtain ⟨gz, h1, h2, h3⟩ := h; exact ⟨gz, h1, h2, h3.ch (grown_ch hb) (fun q => by have := HV.out gz q; omega)⟩)
                    | 14, hne, h => exact absurd rfl hne
                    | 15, hne, h => exact h
                    | 16, hne, h => exact h
                    | m + 17, _, h => exact h
                  · intro ii o hi ho qq X vals hX hC hdep hoth
                    have t5 : qq.tmps[5]? = some (.pointer (some ⟨P, 0, none⟩)) := by rw [hoth 5 (by kernel_rfl)]; rfl
                    have t11 : qq.tmps[11]? = some (.int .i64 (a : Int)) := by rw [hoth 11 (by kernel_rfl)]; rfl
                    match ii, hi, ho, hC with
                    | 0, _, ho, hC =>
                      simp only [List.getElem?_cons_zero, Option.some.injEq] at ho
                      subst ho
                      unfold Oper.wp
                      simp [execOp, go_sem, t5]
                      exact cameB _ rfl (by decide) (Below.refl _ _) rfl (fun h => absurd h (by decide))
                    | 1, _, ho, hC =>
                      simp only [List.getElem?_cons_succ, List.getElem?_cons_zero, Option.some.injEq] at ho
                      subst ho
                      unfold Oper.wp
                      simp [execOp, go_sem, t5]
                      exact cameB _ rfl (by decide) (Below.refl _ _) rfl (fun h => absurd h (by decide))
                    | 2, _, ho, hC =>
                      simp only [List.getElem?_cons_succ, List.getElem?_cons_zero, Option.some.injEq] at ho
                      subst ho
                      obtain ⟨u1, e1⟩ := hdep ⟨1, .data⟩ (by simp) rfl _ 202 rfl rfl
                      rw [show vals 1 = .pointer (some ⟨P, 0, none⟩) from e1] at u1
                      unfold Oper.wp
                      simp [execOp, go_sem, u1]
                      exact cameB _ rfl (by decide) (Below.refl _ _) rfl (fun h => absurd h (by decide))
                    | 3, _, ho, hC =>
                      simp only [List.getElem?_cons_succ, List.getElem?_cons_zero, Option.some.injEq] at ho
                      subst ho
                      obtain ⟨u2, e2⟩ := hdep ⟨2, .data⟩ (by simp) rfl _ 203 rfl rfl
                      rw [show vals 2 = .pointer (some ⟨P, 0, none⟩) from e2] at u2
                      unfold Oper.wp
                      simp [execOp, go_sem, u2]
                      exact cameB _ rfl (by decide) (Below.refl _ _) rfl (fun h => absurd h (by decide))
                    | 4, _, ho, hC =>
                      simp only [List.getElem?_cons_succ, List.getElem?_cons_zero, Option.some.injEq] at ho
                      subst ho
                      obtain ⟨u3, e3⟩ := hdep ⟨3, .data⟩ (by simp) rfl _ 204 rfl rfl
                      rw [show vals 3 = .pointer (some ⟨P, 2, none⟩) from e3] at u3
                      have hb := hC (.inr (by kernel_rfl))
                      have cc := (PlAt.later H6.out.1 hb).c2
                      unfold Oper.wp
                      simp [execOp, go_sem, u3, cc]
                      exact cameB _ rfl (by decide) (Below.refl _ _) rfl (fun h => absurd h (by decide))
                    | 5, _, ho, hC =>
                      simp only [List.getElem?_cons_succ, List.getElem?_cons_zero, Option.some.injEq] at ho
                      subst ho
                      unfold Oper.wp
                      simp [execOp, go_sem, t5]
                      exact cameB _ rfl (by decide) (Below.refl _ _) rfl (fun h => absurd h (by decide))
                    | 6, _, ho, hC =>
                      simp only [List.getElem?_cons_succ, List.getElem?_cons_zero, Option.some.injEq] at ho
                      subst ho
                      obtain ⟨u5, e5⟩ := hdep ⟨5, .data⟩ (by simp) rfl _ 206 rfl rfl
                      rw [show vals 5 = .pointer (some ⟨P, 0, none⟩) from e5] at u5
                      unfold Oper.wp
                      simp [execOp, go_sem, u5]
                      exact cameB _ rfl (by decide) (Below.refl _ _) rfl (fun h => absurd h (by decide))
                    | 7, _, ho, hC =>
                      simp only [List.getElem?_cons_succ, List.getElem?_cons_zero, Option.some.injEq] at ho
                      subst ho
                      obtain ⟨u6, e6⟩ := hdep ⟨6, .data⟩ (by simp) rfl _ 207 rfl rfl
                      rw [show vals 6 = .pointer (some ⟨P, 0, none⟩) from e6] at u6
                      unfold Oper.wp
                      simp [execOp, go_sem, u6]
                      exact cameB _ rfl (by decide) (Below.refl _ _) rfl (fun h => absurd h (by decide))
                    | 8, _, ho, hC =>
                      simp only [List.getElem?_cons_succ, List.getElem?_cons_zero, Option.some.injEq] at ho
                      subst ho
                      obtain ⟨u7, e7⟩ := hdep ⟨7, .data⟩ (by simp) rfl _ 208 rfl rfl
                      rw [show vals 7 = .pointer (some ⟨P, 0, none⟩) from e7] at u7
                      have hb := hC (.inr (by kernel_rfl))
                      have cc := (PlAt.later H6.out.1 hb).c0
                      unfold Oper.wp
                      simp [execOp, go_sem, u7, cc]
                      exact cameB _ rfl (by decide) (Below.refl _ _) rfl (fun h => absurd h (by decide))
                    | 9, _, ho, hC =>
                      simp only [List.getElem?_cons_succ, List.getElem?_cons_zero, Option.some.injEq] at ho
                      subst ho
                      unfold Oper.wp
                      simp [execOp, go_sem, t11]
                      exact cameB _ rfl (by decide) (Below.refl _ _) rfl (fun h => absurd h (by decide))
                    | 10, _, ho, hC =>
                      simp only [List.getElem?_cons_succ, List.getElem?_cons_zero, Option.some.injEq] at ho
                      subst ho
                      obtain ⟨u8, e8⟩ := hdep ⟨8, .data⟩ (by simp) rfl _ 209 rfl rfl
                      rw [show vals 8 = .slice (some ⟨gd, 0, none⟩) N cd from e8] at u8
                      obtain ⟨u9, e9⟩ := hdep ⟨9, .data⟩ (by simp) rfl _ 210 rfl rfl
                      rw [show vals 9 = .int .i64 (a : Int) from e9] at u9
                      unfold Oper.wp
                      simp [execOp, go_sem, u8, u9, haN]
                      exact cameB _ rfl (by decide) (Below.refl _ _) rfl (fun h => absurd h (by decide))
                    | 11, _, ho, hC =>
                      simp only [List.getElem?_cons_succ, List.getElem?_cons_zero, Option.some.injEq] at ho
                      subst ho
                      obtain ⟨u10, e10⟩ := hdep ⟨10, .data⟩ (by simp) rfl _ 211 rfl rfl
                      rw [show vals 10 = .pointer (some ⟨gd, a, none⟩) from e10] at u10
                      have hb := hC (.inr (by kernel_rfl))
                      have cc := (PlAt.later H6.out.1 hb).pd hba
                      unfold Oper.wp
                      simp [execOp, go_sem, u10, cc]
                      exact cameB _ rfl (by decide) (Below.refl _ _) rfl (fun h => absurd h (by decide))
                    | 12, _, ho, hC =>
                      simp only [List.getElem?_cons_succ, List.getElem?_cons_zero, Option.some.injEq] at ho
                      subst ho
                      obtain ⟨u11, e11⟩ := hdep ⟨11, .data⟩ (by simp) rfl _ 212 rfl rfl
                      rw [show vals 11 = .pointer (some ⟨ba, 0, none⟩) from e11] at u11
                      have hb := hC (.inr (by kernel_rfl))
                      unfold Oper.wp
                      simp [go_sem, u11]
                      refine (rounds_any ((PlAt.later H6.out.1 hb).dk a ba m hba hma)).mono ?_
                      rintro r x1 ⟨rfl, hb1⟩
                      exact cameB _ rfl (by decide) hb1 rfl (fun h => absurd h (by decide))
                    | 13, _, ho, hC =>
                      simp only [List.getElem?_cons_succ, List.getElem?_cons_zero, Option.some.injEq] at ho
                      subst ho
                      obtain ⟨u12, e12⟩ := hdep ⟨12, .data⟩ (by simp) rfl _ 213 rfl rfl
                      rw [show vals 12 = .agg (cv (rs m)) from e12] at u12
                      have hgx := hX.size
                      refine opw_oneRs (y := rs m) _ rfl (by simp [Act.eval, u12]) (rs_len om) ?_
                      exact cameB _ rfl (by decide) (below_one _ _) ⟨X.heap.size, rfl, hgx, RowAt.news X _ _⟩ (fun h => absurd h (by decide))
                    | 14, _, ho, hC =>
                      simp only [List.getElem?_cons_succ, List.getElem?_cons_zero, Option.some.injEq] at ho
                      subst ho
                      obtain ⟨u4, e4⟩ := hdep ⟨4, .data⟩ (by simp) rfl _ 205 rfl rfl
                      rw [show vals 4 = .slice sa Ms sc from e4] at u4
                      obtain ⟨u13, e13⟩ := hdep ⟨13, .data⟩ (by simp) rfl _ 214 rfl rfl
                      have hb := hC (.inl rfl)
                      obtain ⟨gz, e13, _, hs13⟩ : ∃ gz, vals 13 = .slice (some ⟨gz, 0, none⟩) 1 1 ∧ W6.heap.size ≤ gz ∧ RowAt gz (cv (rs m)) 46 X := e13
                      rw [e13] at u13
                      refine opw_appRs _ _ rfl (by simp [Act.eval, u4]) (by simp [Act.eval, u13]) (PlAt.later H6.out.1 hb).s (rs_len om) (so_one (rs_len om) hs13) (by rw [List.length_map]; exact HMs.out) ?_
                      intro v' x' q1 q2 q3
                      exact cameX _ rfl q2 ⟨q1, fun k hk => (q3 k hk).elim (fun q => .inl q) (fun q => .inr (Nat.le_trans hb.size q))⟩ rfl
                    | 15, _, ho, hC =>
                      simp only [List.getElem?_cons_succ, List.getElem?_cons_zero, Option.some.injEq] at ho
                      subst ho
                      obtain ⟨u0, e0⟩ := hdep ⟨0, .data⟩ (by simp) rfl _ 201 rfl rfl
                      rw [show vals 0 = .pointer (some ⟨P, 0, none⟩) from e0] at u0
                      unfold Oper.wp
                      simp [execOp, go_sem, u0]
                      exact cameB _ rfl (by decide) (Below.refl _ _) rfl (fun h => absurd h (by decide))
                    | 16, _, ho, hC =>
                      simp only [List.getElem?_cons_succ, List.getElem?_cons_zero, Option.some.injEq] at ho
                      subst ho
                      obtain ⟨u15, e15⟩ := hdep ⟨15, .data⟩ (by simp) rfl _ 216 rfl rfl
                      rw [show vals 15 = .pointer (some ⟨P, 0, none⟩) from e15] at u15
                      unfold Oper.wp
                      simp [execOp, go_sem, u15]
                      exact cameB _ rfl (by decide) (Below.refl _ _) rfl (fun h => absurd h (by decide))
                    | m + 17, hi, _, _ => exact absurd hi (by omega)
                  · intro vals X hX hR _
                    have e0 : vals 16 = .pointer (some ⟨P, 2, none⟩) := hR 16 (by decide)
                    obtain ⟨q1, q2⟩ : RwI 46 144 (vals 14) (Ss.map rs ++ [rs m]) X ∧ At' W6 (.slice sa Ms sc) (vals 14) := hR 14 (by decide)
                    obtain ⟨xa, xc, e14, _, _⟩ := q1.1.form
                    rw [List.length_append, List.length_map, hMs, List.length_singleton] at e14
                    rw [e14] at q1 q2
                    have hpx := RowAt.grow H6.out.1.p hX (fun e => by have := (H6.out.1.neP).1 P (.inr (.inr e)); exact this rfl)
                    have cP : X.cell? ⟨P, 2, none⟩ = some (.slice sa Ms sc) := hpx.cell 2
                    have fP := RowAt.frz hpx 2
                    obtain ⟨hsd, hsb⟩ := H6.out.1.said q1 hX q2
                    have H7 := hid_of' (And.intro hsd (H6.out.2.trans hsb))
                    clear hR hX q1 q2 hpx hsd hsb
                    simp only [List.drop, List.take, putAll, List.setIfInBounds_toArray, List.set_cons_succ, List.set_cons_zero, e0, e14]
                    clear e0 e14
                    go_upto_region 29 with fail
                    clear cP fP
                    generalize X.setCell ⟨P, 2, none⟩ (.slice xa (Ms + 1) xc) = W7 at H7 ⊢
                    have c7 := H7.out.1.c0
                    have d7 := H7.out.1.pd hba
                    have HD := hid_of' (done_any (H7.out.1.dk a ba m hba hma))
                    cases hdn : (m.any fun r => doneR r)
                    · rw [hdn] at HD
                      have hpi := HST.out.2 (fun r hr => by
                        have := List.any_eq_false.1 hdn r hr
                        intro e
                        exact this (by unfold doneR; rw [e]; rfl))
                      have HPI := hid_of' hpi
                      clear hpi hdn
                      go_wp2_with (go_at_call 36; refine HD.out.mono ?_; rintro e w8 ⟨rfl, hb8⟩; clear HD)
                      go_roundw
                      case rel => exact ⟨k + 1, _, _, _, _, by go_num, by omega, by omega, H7.out.1.later hb8, HPI.out, by rw [List.length_append]; have := HSk.out; simp only [List.length_singleton]; omega, bgo H7.out.2 hb8⟩
                      case measure => simp [intOf]; omega
                    · rw [hdn] at HD
                      clear hdn
                      go_wp2_with (go_at_call 36; refine HD.out.mono ?_; rintro e w8 ⟨rfl, hb8⟩; clear HD)
                      go_ret
                      exact ⟨P, ds, _, _, _, _, _, _, rfl, H7.out.1.later hb8, HST.out.1, HDN.out, by rw [List.length_append]; have := HSk.out; simp only [List.length_singleton]; omega, bgo H7.out.2 hb8⟩
          · have hkh : ¬ (k : Int) < 100 := by omega
            go_wp2
            go_ret
            exact ⟨P, ds, _, _, _, _, _, _, rfl, hpl, hpi.done, hdsN, by omega, hB⟩
        · have hki : ¬ (k : Int) < (ML : Int) := by omega
          go_wp2
          go_ret
          exact ⟨P, ds, _, _, _, _, _, _, rfl, hpl, hpi.done, hdsN, by omega, hB⟩
end Go.Proofs.YtfgcljpiidhfpaaDoor
