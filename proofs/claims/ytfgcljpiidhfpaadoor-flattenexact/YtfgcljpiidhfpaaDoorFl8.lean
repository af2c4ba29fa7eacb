
/-
  Package flatten: Settle, New, Clear.
-/
import Derived.Test.YtfgcljpiidhfpaaDoorFl7
namespace Go.Proofs.YtfgcljpiidhfpaaDoor
open Go.RowKit
set_option maxRecDepth 100000

theorem CkAt.ch {b : Nat} {x : List Int} {S : Nat → Prop} {w w' : World} (h : CkAt b x w) (c : Ch S w w') (hn : ¬ S b) : CkAt b x w' := ⟨c.heap h.1 hn, h.2⟩
/-- The rounds, the first k brought on. -/
def setK (n : Int) (s : Nat) (hv : List Int) (l : List Rnd) (k : Nat) : List Rnd := l.mapIdx fun c r => if c < k then goneR n s c hv r else r
theorem setK_get {n : Int} {s : Nat} {hv : List Int} {l : List Rnd} {k c : Nat} {r : Rnd} (h : l[c]? = some r) : (setK n s hv l k)[c]? = some (if c < k then goneR n s c hv r else r) := by
  unfold setK; rw [List.getElem?_mapIdx, h]; rfl
theorem setK_zero (n : Int) (s : Nat) (hv : List Int) (l : List Rnd) : setK n s hv l 0 = l := by
  apply List.ext_getElem?
  intro i
  unfold setK
  rw [List.getElem?_mapIdx]
  cases l[i]? <;> simp
theorem setK_next {n : Int} {s : Nat} {hv : List Int} {l : List Rnd} {k : Nat} {r : Rnd} (h : l[k]? = some r) : (setK n s hv l k).set k (goneR n s k hv r) = setK n s hv l (k + 1) := by
  have hk := (List.getElem?_eq_some_iff.1 h).1
  apply List.ext_getElem?
  intro i
  rw [List.getElem?_set]
  by_cases e : k = i
  · subst e
    rw [if_pos rfl, if_pos (by unfold setK; rw [List.length_mapIdx]; exact hk), setK_get h, if_pos (by omega)]
  · rw [if_neg e]
    unfold setK
    rw [List.getElem?_mapIdx, List.getElem?_mapIdx]
    cases l[i]? with
    | none => rfl
    | some x =>
      simp only [Option.map_some]
      by_cases e1 : i < k
      · rw [if_pos e1, if_pos (by omega)]
      · rw [if_neg e1, if_neg (by omega)]
theorem setK_ok {n : Int} {s : Nat} {hv : List Int} {l : List Rnd} (ok : OkL l) (k : Nat) : OkL (setK n s hv l k) := by
  refine ⟨by unfold setK; rw [List.length_mapIdx]; exact ok.1, fun r hr => ?_⟩
  obtain ⟨c, hc⟩ := List.getElem?_of_mem hr
  have hc8 : c < 8 := by
    have := (List.getElem?_eq_some_iff.1 hc).1
    unfold setK at this
    rw [List.length_mapIdx, ok.1] at this
    exact this
  obtain ⟨x, hx, ox⟩ := ok.at hc8
  rw [setK_get hx] at hc
  cases hc
  split
  · exact goneR_ok ox
  · exact ox

set_option maxHeartbeats 4000000 in
theorem settle_any {d : Nat} {N s : Nat} {l : List Rnd} {w : World} (h : DkAt d N s l w) (hs : s < 8) (hN : N ≤ 8) {hv : List Int} (hh : hv.length = 8) :
    Calls Tryd.prog 35 #[.pointer (some ⟨d, 0, none⟩), .agg (cv hv)] w fun e w' => e = .returned (.bool (!(l == setK N s hv l N))) ∧ DkAt d N s (setK N s hv l N) w' ∧ Ch (fun k => k = d) w w' := by
  have hdl := h.lt
  have hB1 := below_one w (.cells (cv hv) 42)
  have k1 := CkAt.new w hh
  have h1 := h.later hB1
  have ok := h.2
  clear h
  go_enter Tryd.func35, Tryd.ntmps35
  go_upto_region 1 with fail
  obtain ⟨hb, hbe⟩ : ∃ b, w.heap.size = b := ⟨_, rfl⟩
  generalize w.alloc (.cells (cv hv) 42) = W1 at *
  rw [hbe] at hdl k1 ⊢
  have HB0 := hid_of' hbe
  clear hbe
  have hlt := k1.lt
  go_upto_region 2 with (first | (refine ldRnds ok rfl _ rfl rfl h1.rounds ?_) | (refine wpL_alloc rfl _ rfl zRnds ?_) | (refine wpL_stRow rfl _ _ _ rfl rfl rfl (RowAt.news W1 _ _) (rnds_size ok) (two_sz (by rw [rs_len ok, rs_len rds0_ok])) (cv_one _) ?_))
  obtain ⟨sb, hsb⟩ : ∃ b, W1.heap.size = b := ⟨_, rfl⟩
  have hB2 := below_row (below_one W1 (.cells (cv (rs rds0)) 46)) (Nat.le_refl W1.heap.size) (cv (rs l))
  have r2 := (RowAt.news W1 (cv (rs rds0)) 46).rowI (cv (rs l))
  have H2 := hid_of' (And.intro (h1.later hB2) (And.intro r2 (And.intro (k1.later hB2) (bgo hB1 hB2))))
  clear r2 k1 hB1 h1 hB2
  generalize (W1.alloc (.cells (cv (rs rds0)) 46)).setRow W1.heap.size (cv (rs l)) = W2 at H2 ⊢
  rw [hsb] at H2 hlt ⊢
  clear hsb
  have c0 := H2.out.1.c0
  go_upto_region 3 with fail
  clear c0
  have hne : ¬ d = sb := by omega
  have hne2 : ¬ hb = sb := by omega
  go_loopw [15] (fun i wr => ∃ k : Nat, i = .int .i64 (k : Int) ∧ k ≤ N ∧ DkAt d N s l wr ∧ RowAt sb (cv (rs (setK N s hv l k))) 46 wr ∧ CkAt hb hv wr ∧ Below w.heap.size w wr) (fun i _ => N - (intOf i).toNat)
  case atStart => exact ⟨0, rfl, by omega, H2.out.1, by rw [setK_zero]; exact H2.out.2.1, H2.out.2.2.1, H2.out.2.2.2⟩
  case round =>
    rename World => wr
    obtain ⟨k, rfl, hk, hd, hr, hck, hB⟩ := hrel
    by_cases hlt2 : k < N
    · have hki : (k : Int) < (N : Int) := by omega
      have hk8 : (k : Int) < 8 := by omega
      obtain ⟨r, hrk, hro⟩ := ok.at (i := k) (by omega)
      have hgo := goneR_ok (n := N) (s := s) (c := k) (hv := hv) hro
      have HG := hid_of' (goneOn_any hd hs (by omega) hrk hh)
      have HK := hid_of' (setK_next (n := N) (s := s) (hv := hv) hrk)
      have hok := setK_ok (n := N) (s := s) (hv := hv) ok k
      obtain ⟨g, hg⟩ : ∃ g, goneR N s k hv r = g := ⟨_, rfl⟩
      rw [hg] at HG HK hgo
      have HD := hid_of' (And.intro hd hB)
      clear hd hB hrk hg
      obtain ⟨L, hL⟩ : ∃ L, setK N s hv l k = L := ⟨_, rfl⟩
      rw [hL] at HK hok hr
      clear hL
      go_upto_region 6 with (first | (refine ldCk hh rfl _ rfl rfl hck.in ?_) | (go_at_call 62; refine HG.out.mono ?_; rintro e w3 ⟨rfl, hb3⟩; clear HG; have hr3 := hr.later hb3) | (refine stRnd rfl _ _ rfl rfl hgo rfl hr3 (by rw [rs_len hok]; omega) ?_))
      have hp := hr3.putC (o := k * 18) (y := rc g) (by rw [rc_len hgo, rs_len hok]; omega)
      rw [rs_put hok (by omega) hgo, HK.out] at hp
      have hc := Ch.cells (S := fun j => j = sb) (a := w3) (g := sb) (.inl rfl) (cv (rc g)).toList (k * 18) w3 (Ch.refl _ _)
      have hk3 := hck.later hb3
      have HZ := hid_of' (And.intro hp (And.intro ((HD.out.1.later hb3).ch hc hne) (And.intro (CkAt.ch hk3 hc hne2) (Ch.none (((Ch.of (S := fun _ => False) (bgo HD.out.2 hb3)).go hc (fun z hz => .inr (by have := HB0.out; omega)))) (fun _ _ q => q)))))
      clear hr hck hr3 hp hc hk3
      generalize w3.setCells sb (k * 18) (cv (rc g)).toList = W4 at HZ ⊢
      go_wp2
      go_roundw
      case rel => exact ⟨k + 1, by go_num, by omega, HZ.out.2.1, HZ.out.1, HZ.out.2.2.1, HZ.out.2.2.2⟩
      case measure => simp [intOf]; omega
    · have hki : ¬ (k : Int) < (N : Int) := by omega
      obtain rfl : k = N := by omega
      have hok := setK_ok (n := k) (s := s) (hv := hv) ok k
      have HBc := hid_of' (become_any hd hok)
      have HD := hid_of' hB
      clear hB
      go_wp2_with (first | (refine ldRnds hok rfl _ rfl rfl hr.in ?_) | (go_at_call 63; refine HBc.out.mono ?_; rintro e w3 ⟨rfl, hd3, hc3⟩; clear HBc))
      go_ret
      exact ⟨rfl, hd3, (Ch.of HD.out).trans hc3⟩

set_option maxHeartbeats 1000000 in
theorem new_ok {n s : Int} (h1 : 1 ≤ n) (h8 : n ≤ 8) (hs : 0 ≤ s) (hsn : s < n) (w : World) :
    Calls Tryd.prog 9 #[.int .i64 n, .int .i64 s] w fun e w' => ∃ d, e = .returned (.tuple #[.pointer (some ⟨d, 0, none⟩), .nilIface]) ∧ w.heap.size ≤ d ∧ DkAt d n s rds0 w' ∧ Below w.heap.size w w' := by
  have a1 : ¬ n < 1 := by omega
  have a2 : ¬ 8 < n := by omega
  have a3 : ¬ s < 0 := by omega
  have a4 : ¬ n ≤ s := by omega
  have r0 := RowAt.news w (cv (dk n s rds0)) 75
  have hB := below_one w (.cells (cv (dk n s rds0)) 75)
  have hbd := bldDesk n s
  clear h1 h8 hs hsn
  go_enter Tryd.func9, Tryd.ntmps9
  go_wp2_with (refine wpL_bld rfl _ _ rfl _ (by simpa using hbd) ?_)
  go_ret2
  exact ⟨w.heap.size, rfl, Nat.le_refl _, ⟨r0, rds0_ok⟩, hB⟩
theorem clear_any {d : Nat} {n s : Int} {l : List Rnd} {w : World} (h : DkAt d n s l w) :
    Calls Tryd.prog 40 #[.pointer (some ⟨d, 0, none⟩)] w fun e w' => (∃ z, e = .returned z) ∧ DkAt d n s rds0 w' ∧ Ch (fun k => k = d) w w' := by
  have hp := h.1.putC (o := 2) (y := rs rds0) (by rw [dk_len n s h.2, rs_len rds0_ok]; exact Nat.le_refl _)
  rw [dk_all n s h.2 rds0_ok] at hp
  have hc := Ch.cells (S := fun k => k = d) (a := w) (g := d) (.inl rfl) (cv (rs rds0)).toList 2 w (Ch.refl _ _)
  have hbr := bldRnds
  have HF := hid_of' (And.intro hp hc)
  clear hp hc
  go_enter Tryd.func40, Tryd.ntmps40
  go_wp2_with (first | (refine wpL_bld rfl _ _ rfl _ (by simpa using hbr) ?_) | (refine stRnds rfl _ _ rfl rfl rds0_ok rfl h.1 (by rw [dk_len n s h.2]; exact Nat.le_refl _) ?_))
  go_end0
  exact ⟨⟨_, rfl⟩, ⟨HF.out.1, rds0_ok⟩, HF.out.2⟩
end Go.Proofs.YtfgcljpiidhfpaaDoor
