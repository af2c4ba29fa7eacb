
/-
  model.Of of a row in which something is wrong. barrowref05.Index, Fair, wrong, Of. Of, and what its Model keeps clear of; barrowref05.Of. barrowlaw05.base, begun. Model.ModelOf, ViewOf, Place, of places that there are. barrowlaw05.wakes.
-/
import Derived.Test.YtjopeojnlibagaaGreatDoorMd2
import Derived.Test.YtjopeojnlibagaaGreatDoorTrBad
import Derived.Test.YtjopeojnlibagaaGreatDoorTrIntact
import Derived.Test.YtjopeojnlibagaaGreatDoorTrEq
import Derived.Test.YtjopeojnlibagaaGreatDoorMd3
import Derived.Test.YtjopeojnlibagaaGreatDoorVwZ
import Derived.Test.YtjopeojnlibagaaGreatDoorTrBef
namespace Go.Proofs.YtjopeojnlibagaaGreatDoor
open Go.RowKit Go.Extern.Stop Go.Stop Go.Extern
set_option maxRecDepth 100000

def bModel : ByteArray := ⟨#[109, 111, 100, 101, 108]⟩
def bOf : ByteArray := ⟨#[79, 102]⟩
theorem place_nat (k : Nat) : place (k : Int) = (k : Int) := by unfold place; rw [if_neg (by omega)]
/-- Why an element can't be laid in. -/
def flK (there : Bool) (e : El) : Option Nat := if rightC e.ch = false then some 2 else if fairH e.hd = false then some 0 else if there = true then some 8 else none
def hasI (l : List El) (i : Idn) : Bool := l.any fun x => decide (x.id = i)
def wrK (l : List El) (e : El) : Option Nat := flK (hasI l e.id) e
theorem rkF_has {l : List El} {N : Int} {k : Nat} {i : Idn} (hk : k ≤ l.length) : (rkF l N k i).isSome = hasI (l.take k) i := by
  induction k with
  | zero => rfl
  | succ k ih =>
    obtain ⟨e, he⟩ : ∃ e, l[k]? = some e := ⟨_, List.getElem?_eq_getElem (by omega)⟩
    have e2 : l.take (k + 1) = l.take k ++ [e] := by rw [List.take_add_one, he]; rfl
    rw [← rkF_next he, e2]
    unfold putF hasI
    rw [List.any_append]
    by_cases q : i = e.id
    · rw [if_pos q]
      simp [q]
    · rw [if_neg q, ih (by omega)]
      have : decide (e.id = i) = false := by simp; exact fun h => q h.symm
      simp [this, hasI]
theorem refusalM {ad : Nat → Addr} (ca : ByteArray) (at_ : Int) (k : Nat) (w : World) :
    Calls Tryz.prog 54 #[.string ca, .int .i64 at_, .iface 229 (.pointer (some (ad k)))] w fun e w' => e = .returned (.iface 115 (.pointer (some ⟨w.heap.size, 0, none⟩))) ∧ FaultAt ad w.heap.size bModel ca (place at_) k w' ∧ Below w.heap.size w w' := by
  have HF := hid_of' (newT (ad := ad) bModel ca at_ k w)
  go_enter Tryz.func54, Tryz.ntmps54
  go_wp2_with (go_at_call 35; refine HF.out.mono ?_; rintro r w1 ⟨rfl, hf, hb1⟩)
  go_ret
  exact ⟨rfl, hf, hb1⟩
set_option maxHeartbeats 2000000 in
theorem flaw_bad {ad : Nat → Addr} {mb tb kb n : Nat} {f : Idn → Option Int} {e : El} {w : World} (L : Laid ad w) (h1 : RowAt mb #[pv tb, .map (some kb)] 107 w) (hM : MpAt kb n f w) (hi : e.id.In) (kk : Nat) (hk : flK (f e.id).isSome e = some kk) :
    Calls Tryz.prog 55 #[pv mb, .agg (ev e)] w fun r w' => r = .returned (.iface 229 (.pointer (some (ad kk)))) ∧ Below w.heap.size w w' := by
  have hE : CsIn w.heap.size 0 (idc e.ep e.rp e.no) (w.alloc (.cells (ev e) 66)) := id_at (row_new w _ _).in
  have hM1 := hM.later (below_one w (.cells (ev e) 66))
  have L1 := L.below (below_one w (.cells (ev e) 66))
  have hB := below_one w (.cells (ev e) 66)
  have hr1 := row_new w (ev e) 66
  have HV := hid_of' (validRune_any e.ch)
  have HR := hid_of' (rightHides_any e.hd)
  have hMr := h1.later (below_one w (.cells (ev e) 66))
  clear h1 hM L
  go_enter Tryz.func55, Tryz.ntmps55
  go_upto_region 1 with fail
  generalize hw0 : w.alloc (.cells (ev e) 66) = w0 at *
  clear hw0
  replace hB := hid_of' hB
  generalize w.heap.size = g at hE hr1 ⊢
  replace hB := hB.out
  have c1 : ∀ s : Wld w0, (wOf s).cell? ⟨mb, 1, none⟩ = some (.map (some kb)) := fun s => hMr.cls 1 _ rfl s
  unfold pv
  have hB0 := hB
  have LH := hid_of' L1
  clear L1 hB
  have hB : Below w0.heap.size w0 w0 := Below.refl _ _
  refine wp_region_cls (by kernel_rfl) (by kernel_rfl) ?_
  repeat (first | go_big_quiet_skip | (go_big_quiet_want; first | (refine quiet_load_in _ _ rfl rfl hE.cls Tryz.underlying29 rfl (id_size _ _ _) ?_; simp only [Act.put, List.setIfInBounds_toArray, List.set_cons_succ, List.set_cons_zero]; go_big_quiet_on) | (refine quiet_lookup _ _ rfl hi rfl rfl hM1.cls ?_; simp only [Act.put, List.setIfInBounds_toArray, List.set_cons_succ, List.set_cons_zero]; go_big_quiet_on) | (go_big_quiet_op; first | go_big_quiet_on | go_big_quiet_call ((fail)))))
  refine wpQuiet_nil ?_
  rintro w1 ⟨s1, e1⟩
  have hb1 := wOf_below s1
  rw [← e1] at hb1
  clear e1 s1
  replace hr1 := hr1.later hb1
  replace hB := bgo hB hb1
  clear hb1
  have d3 : w1.cell? ⟨g, 3, none⟩ = some (.int .i32 e.ch) := hr1.cell 3
  have d4 : w1.cell? ⟨g, 4, none⟩ = some (.int .i64 e.hd) := hr1.cell 4
  have L1 := LH.out.below hB
  have l0 : w1.cell? ⟨0, 0, none⟩ = some (.iface 229 (.pointer (some (ad 0)))) := L1.var 0 (by decide)
  have l2 : w1.cell? ⟨2, 0, none⟩ = some (.iface 229 (.pointer (some (ad 2)))) := L1.var 2 (by decide)
  have l8 : w1.cell? ⟨3, 0, none⟩ = some (.iface 229 (.pointer (some (ad 8)))) := L1.var 8 (by decide)
  have hBx := bgo hB0 hB
  clear L1 LH hM1 hMr hE c1 hB hB0
  unfold flK at hk
  cases hc : rightC e.ch with
  | false =>
    rw [if_pos hc] at hk
    cases hk
    rw [hc] at HV
    clear HR
    go_wp2_with (go_at_call 82; refine (HV.out _).mono ?_; rintro r w2 ⟨rfl, hw⟩; obtain rfl := hw.symm)
    go_ret
    exact ⟨rfl, hBx⟩
  | true =>
    rw [if_neg (by rw [hc]; decide)] at hk
    rw [hc] at HV
    cases hh : fairH e.hd with
    | false =>
      rw [if_pos hh] at hk
      cases hk
      rw [hh] at HR
      go_wp2_with (first | (go_at_call 82; refine (HV.out _).mono ?_; rintro r w2 ⟨rfl, hw⟩; obtain rfl := hw.symm) | (go_at_call 61; refine (HR.out _).mono ?_; rintro r w2 ⟨rfl, hw⟩; obtain rfl := hw.symm))
      go_ret
      exact ⟨rfl, hBx⟩
    | true =>
      rw [if_neg (by rw [hh]; decide)] at hk
      rw [hh] at HR
      cases hf : (f e.id).isSome with
      | false => rw [hf] at hk; simp at hk
      | true =>
        rw [hf] at hk
        simp at hk
        subst hk
        go_wp2_with (first | (go_at_call 82; refine (HV.out _).mono ?_; rintro r w2 ⟨rfl, hw⟩; obtain rfl := hw.symm) | (go_at_call 61; refine (HR.out _).mono ?_; rintro r w2 ⟨rfl, hw⟩; obtain rfl := hw.symm))
        go_ret
        exact ⟨rfl, hBx⟩

set_option maxHeartbeats 1000000 in
theorem of_bad {ad : Nat → Addr} {w : World} {u : Value} {l : List El} (L : Laid ad w) (hu : SlE w u l) (hn : l.length ≤ 1000000) (j : Nat) (ej : El) (hej : l[j]? = some ej) (hg : ∀ (i : Nat) (e : El), i < j → l[i]? = some e → e.Good) (hd : ∀ (i m : Nat) (x y : El), i < m → m < j → l[i]? = some x → l[m]? = some y → x.id ≠ y.id) (hin : ej.id.In) (kk : Nat) (hkk : wrK (l.take j) ej = some kk) :
    Calls Tryz.prog 34 #[u] w fun r w' => ∃ b, r = .returned (.tuple #[.pointer none, .iface 115 (.pointer (some ⟨b, 0, none⟩))]) ∧ FaultAt ad b bModel bOf (j : Int) kk w' ∧ Below w.heap.size w w' := by
  have hjl : j < l.length := (List.getElem?_eq_some_iff.1 hej).1
  obtain ⟨a', c', rfl⟩ := hu.form
  have HR := hid_of' (roomy_any l.length w)
  have HG : Hid (∀ g o_ c, (Value.slice a' l.length c') = .slice (some ⟨g, o_, none⟩) l.length c → l ≠ [] → g < w.heap.size) := by
    intro g o_ c hv h0
    rcases hu with h | ⟨g2, o2, c2, hv2, hc⟩
    · exact absurd h.1 h0
    · rw [hv] at hv2
      cases hv2
      exact hc.lt h0
  go_enter Tryz.func34, Tryz.ntmps34
  unfold pv at HR
  go_wp2_with (go_at_call 64; refine HR.out.mono ?_; rintro r w1 ⟨mb, tb, kb, rfl, q1, q2, q3, hm1, ht1, hM1, hb1⟩)
  clear HR
  have hu1 := hu.later hb1
  go_loopw [13] (fun i wr => ∃ k : Nat, i = .int .i64 (k : Int) ∧ k ≤ j ∧ RowAt mb #[pv tb, .map (some kb)] 107 wr ∧ RowAt tb #[.int .i64 32, .pointer none] 151 wr ∧ MpAt kb k (rkF l l.length k) wr ∧ SlE wr (.slice a' l.length c') l ∧ Below w.heap.size w wr) (fun i _ => l.length - (intOf i).toNat)
  case atStart => exact ⟨0, rfl, Nat.zero_le _, hm1, ht1, hM1, hu1, hb1⟩
  case round =>
    obtain ⟨k, rfl, hk, hm, ht, hM, hs, hB⟩ := hrel
    clear hm1 ht1 hM1 hu1 hb1
    by_cases hlt : k < j
    · have hki : (k : Int) < (l.length : Int) := by omega
      obtain ⟨e, he⟩ : ∃ e, l[k]? = some e := ⟨_, List.getElem?_eq_getElem (by omega)⟩
      obtain ⟨gi, gc, gh⟩ := hg k e hlt he
      have hfn : (rkF l l.length k e.id).isSome = false := by rw [rkF_none (fun i x hi hx => hd i k x e hi hlt hx he)]; rfl
      rcases hs with ⟨h0, _⟩ | ⟨g, o_, c, hv, hc⟩
      · exfalso; subst h0; simp at hjl
      simp only [Value.slice.injEq] at hv
      obtain ⟨rfl, _, rfl⟩ := hv
      have hce := hc k e he
      go_upto_region 5 with (first | (refine wpL_loadE rfl _ rfl rfl hce ?_) | (refine wpL_storeE rfl _ _ rfl rfl rfl (row_new wr _ _) ?_))
      have hr5 := (row_new wr #[.int .i64 0, .int .i64 0, .int .i64 0, .int .i32 0, .int .i64 0] 66).put (ev e)
      have hB5 : Below wr.heap.size wr ((wr.alloc (.cells #[.int .i64 0, .int .i64 0, .int .i64 0, .int .i32 0, .int .i64 0] 66)).setRow wr.heap.size (ev e)) := below_row (below_one wr _) (Nat.le_refl _) _
      generalize (wr.alloc (.cells #[.int .i64 0, .int .i64 0, .int .i64 0, .int .i32 0, .int .i64 0] 66)).setRow wr.heap.size (ev e) = W5 at hr5 hB5 ⊢
      have HF := hid_of' (flaw_ok (hm.later hB5) (hM.later hB5) gi gc gh hfn)
      have HI := hid_of' gi
      have HM := hid_of' hM
      have HS := hid_of' (show SlE wr (.slice (some ⟨g, o_, none⟩) l.length c') l from .inr ⟨g, o_, c', rfl, hc⟩)
      clear hM hfn gi gc gh hce hc
      unfold pv at HF
      go_upto_region 8 with (first | (refine wpL_loadE rfl _ rfl rfl hr5.in ?_) | (go_at_call 55; refine HF.out.mono ?_; rintro r W8 ⟨rfl, hb8⟩; clear HF))
      have hB8 := bgo hB5 hb8
      have hm8 := hm.later hB8
      have hI8 : CsIn wr.heap.size 0 (idc e.id.a e.id.b e.id.c) W8 := id_at (hr5.later hb8).in
      clear hr5 hb8 hB5
      refine wp_region_tail 10 (by kernel_rfl) (fun _ => none) (by kernel_rfl) (by kernel_rfl) (by decide) (fun i v x => match i with
        | 0 => v = .pointer (some ⟨mb, 0, none⟩)
        | 1 => v = .pointer (some ⟨mb, 0, none⟩)
        | 2 => v = .pointer (some ⟨mb, 1, none⟩)
        | 3 => v = .map (some kb)
        | 4 => v = .pointer (some ⟨wr.heap.size, 0, none⟩)
        | 5 => v = .agg (idc e.id.a e.id.b e.id.c)
        | 6 => v = .int .i64 (k : Int)
        | 7 => v = .slice (some ⟨g, o_, none⟩) l.length c'
        | 8 => v = .int .i64 (l.length : Int)
        | 9 => v = .int .i64 (rankN k l.length)
        | _ => True) (fun _ => false) (fun _ _ _ _ h => by cases h) ?_ ?_ ?_
      · intro i v x x' hR hb
        match i, hR with
        | 0, h => exact h
        | 1, h => exact h
        | 2, h => exact h
        | 3, h => exact h
        | 4, h => exact h
        | 5, h => exact h
        | 6, h => exact h
        | 7, h => exact h
        | 8, h => exact h
        | 9, h => exact h
        | m + 10, h => exact h
      · intro i o hi ho q x vals hX hdep hoth
        have t0 : q.tmps[0]? = some (.slice (some ⟨g, o_, none⟩) l.length c') := by rw [hoth 0 (by kernel_rfl)]; rfl
        have t4 : q.tmps[4]? = some (.pointer (some ⟨mb, 0, none⟩)) := by rw [hoth 4 (by kernel_rfl)]; rfl
        have t5 : q.tmps[5]? = some (.int .i64 (k : Int)) := by rw [hoth 5 (by kernel_rfl)]; rfl
        have t6 : q.tmps[6]? = some (.pointer (some ⟨wr.heap.size, 0, none⟩)) := by rw [hoth 6 (by kernel_rfl)]; rfl
        match i, hi, ho with
        | 0, _, ho =>
          simp only [List.getElem?_cons_zero, Option.some.injEq] at ho
          subst ho
          unfold Oper.wp
          simp [execOp, go_sem, t4]
          exact came _ rfl (Below.refl _ _) rfl (fun h => absurd h (by decide))
        | 1, _, ho =>
          simp only [List.getElem?_cons_succ, List.getElem?_cons_zero, Option.some.injEq] at ho
          subst ho
          obtain ⟨u0, e0⟩ := hdep ⟨0, .data⟩ (by simp) rfl _ 26 rfl rfl
          rw [show vals 0 = .pointer (some ⟨mb, 0, none⟩) from e0] at u0
          unfold Oper.wp
          simp [execOp, go_sem, u0]
          exact came _ rfl (Below.refl _ _) rfl (fun h => absurd h (by decide))
        | 2, _, ho =>
          simp only [List.getElem?_cons_succ, List.getElem?_cons_zero, Option.some.injEq] at ho
          subst ho
          obtain ⟨u1, e1⟩ := hdep ⟨1, .data⟩ (by simp) rfl _ 27 rfl rfl
          rw [show vals 1 = .pointer (some ⟨mb, 0, none⟩) from e1] at u1
          unfold Oper.wp
          simp [execOp, go_sem, u1]
          exact came _ rfl (Below.refl _ _) rfl (fun h => absurd h (by decide))
        | 3, _, ho =>
          simp only [List.getElem?_cons_succ, List.getElem?_cons_zero, Option.some.injEq] at ho
          subst ho
          obtain ⟨u2, e2⟩ := hdep ⟨2, .data⟩ (by simp) rfl _ 28 rfl rfl
          rw [show vals 2 = .pointer (some ⟨mb, 1, none⟩) from e2] at u2
          have cc : x.cell? ⟨mb, 1, none⟩ = some (.map (some kb)) := (hm8.later hX).cell 1
          unfold Oper.wp
          simp [execOp, go_sem, u2, cc]
          exact came _ rfl (Below.refl _ _) rfl (fun h => absurd h (by decide))
        | 4, _, ho =>
          simp only [List.getElem?_cons_succ, List.getElem?_cons_zero, Option.some.injEq] at ho
          subst ho
          unfold Oper.wp
          simp [execOp, go_sem, t6]
          exact came _ rfl (Below.refl _ _) rfl (fun h => absurd h (by decide))
        | 5, _, ho =>
          simp only [List.getElem?_cons_succ, List.getElem?_cons_zero, Option.some.injEq] at ho
          subst ho
          obtain ⟨u4, e4⟩ := hdep ⟨4, .data⟩ (by simp) rfl _ 30 rfl rfl
          rw [show vals 4 = .pointer (some ⟨wr.heap.size, 0, none⟩) from e4] at u4
          exact opw_loadI _ rfl (by simp [Act.eval, u4]) (hI8.later hX) (came _ rfl (Below.refl _ _) rfl (fun h => absurd h (by decide)))
        | 6, _, ho =>
          simp only [List.getElem?_cons_succ, List.getElem?_cons_zero, Option.some.injEq] at ho
          subst ho
          unfold Oper.wp
          simp [execOp, go_sem, t5]
          exact came _ rfl (Below.refl _ _) rfl (fun h => absurd h (by decide))
        | 7, _, ho =>
          simp only [List.getElem?_cons_succ, List.getElem?_cons_zero, Option.some.injEq] at ho
          subst ho
          unfold Oper.wp
          simp [execOp, go_sem, t0]
          exact came _ rfl (Below.refl _ _) rfl (fun h => absurd h (by decide))
        | 8, _, ho =>
          simp only [List.getElem?_cons_succ, List.getElem?_cons_zero, Option.some.injEq] at ho
          subst ho
          obtain ⟨u7, e7⟩ := hdep ⟨7, .data⟩ (by simp) rfl _ 33 rfl rfl
          rw [show vals 7 = .slice (some ⟨g, o_, none⟩) l.length c' from e7] at u7
          unfold Oper.wp
          simp [go_sem, u7]
          exact came _ rfl (Below.refl _ _) rfl (fun h => absurd h (by decide))
        | 9, _, ho =>
          simp only [List.getElem?_cons_succ, List.getElem?_cons_zero, Option.some.injEq] at ho
          subst ho
          obtain ⟨u6, e6⟩ := hdep ⟨6, .data⟩ (by simp) rfl _ 32 rfl rfl
          rw [show vals 6 = .int .i64 (k : Int) from e6] at u6
          obtain ⟨u8, e8⟩ := hdep ⟨8, .data⟩ (by simp) rfl _ 34 rfl rfl
          rw [show vals 8 = .int .i64 (l.length : Int) from e8] at u8
          unfold Oper.wp
          simp [go_sem, u6, u8]
          refine (evenRank_0 (k : Int) (l.length : Int) x (by omega) (by omega)).mono ?_
          rintro r x1 ⟨rfl, hw1⟩; have hb1 : Below x.heap.size x x1 := by rw [hw1]; exact Below.refl _ _
          exact came _ rfl hb1 rfl (fun h => absurd h (by decide))
        | m + 10, hi, _ => exact absurd hi (by omega)
      · intro vals x' hX hR _
        have r3 : vals 3 = .map (some kb) := hR 3 (by decide)
        have r5 : vals 5 = .agg (idc e.id.a e.id.b e.id.c) := hR 5 (by decide)
        have r9 : vals 9 = .int .i64 (rankN k l.length) := hR 9 (by decide)
        have hb9 := bgo hB8 hX
        have hM9 := HM.out.later hb9
        have hrb := rankN_b (k := (k : Int)) (n := (l.length : Int)) (by omega) hki
        simp only [List.take, List.drop, putAll, r3, r5, r9]
        have HZ : Hid (In64 (rankN k l.length) ∧ k < 1099511627776) := ⟨⟨by omega, by omega⟩, by omega⟩
        clear hrb
        simp only [List.setIfInBounds_toArray, List.set_cons_succ, List.set_cons_zero]
        refine wpL_mapPut rfl _ _ _ rfl hM9 HI.out rfl rfl rfl HZ.out.1 HZ.out.2 ?_
        intro w9 hM' hgr
        simp only [Act.put]
        go_wp2
        have hkp := Kp.of_grown hgr
        have hlk := hM9.lt
        clear hM9 r3 r5 r9 hR
        go_roundw
        case rel =>
          refine ⟨k + 1, by go_num, by omega, (hm.later hb9).kp hkp (by omega), (ht.later hb9).kp hkp (by omega), ?_, (HS.out.later hb9).kp hkp ?_, hkp.new (bgo hB hb9) (by omega)⟩
          · rw [← rkF_next he]; exact hM'
          · intro g2 o2 c2 e2 hl2
            have e3 := HG.out g2 o2 c2 e2 hl2
            omega
        case measure => simp [intOf]; omega
    · obtain rfl : k = j := by omega
      have hki : (k : Int) < (l.length : Int) := by omega
      rcases hs with ⟨h0, _⟩ | ⟨g, o_, c, hv, hc⟩
      · exfalso; subst h0; simp at hjl
      simp only [Value.slice.injEq] at hv
      obtain ⟨rfl, _, rfl⟩ := hv
      have hce := hc k ej hej
      go_upto_region 5 with (first | (refine wpL_loadE rfl _ rfl rfl hce ?_) | (refine wpL_storeE rfl _ _ rfl rfl rfl (row_new wr _ _) ?_))
      have hr5 := (row_new wr #[.int .i64 0, .int .i64 0, .int .i64 0, .int .i32 0, .int .i64 0] 66).put (ev ej)
      have hB5 : Below wr.heap.size wr ((wr.alloc (.cells #[.int .i64 0, .int .i64 0, .int .i64 0, .int .i32 0, .int .i64 0] 66)).setRow wr.heap.size (ev ej)) := below_row (below_one wr _) (Nat.le_refl _) _
      generalize (wr.alloc (.cells #[.int .i64 0, .int .i64 0, .int .i64 0, .int .i32 0, .int .i64 0] 66)).setRow wr.heap.size (ev ej) = W5 at hr5 hB5 ⊢
      have L5 := L.below (bgo hB hB5)
      have HF := hid_of' (flaw_bad L5 (hm.later hB5) (hM.later hB5) hin kk (by rw [rkF_has (by omega)]; exact hkk))
      have HN := hid_of' (fun x => refusalM (ad := ad) bOf (k : Int) kk x)
      clear hM hce hc hkk hm ht L5 L hin hd hg
      unfold pv at HF
      go_wp2_with (first | (refine wpL_loadE rfl _ rfl rfl hr5.in ?_) | (go_at_call 55; refine HF.out.mono ?_; rintro r W8 ⟨rfl, hb8⟩; clear HF) | (go_at_call 54; refine (HN.out _).mono ?_; rintro r W9 ⟨rfl, hf9, hb9⟩; clear HN))
      go_ret2
      exact ⟨_, rfl, by rwa [place_nat] at hf9, bgo (bgo (bgo hB hB5) hb8) hb9⟩
end Go.Proofs.YtjopeojnlibagaaGreatDoor
namespace Go.Proofs.YtjopeojnlibagaaGreatDoor
open Go.RowKit Go.Extern.Stop Go.Stop Go.Extern
set_option maxRecDepth 100000

theorem wpL_loadI {ops : Array Oper} {rest : List Oper} {o : Oper} {A : Act} {w : World} {Q : Exit → Act → World → Prop} (hgd : o.guard = none) (x : Operand) (ho : o.op = .load 29 x) {b off : Nat} (hx : A.eval x = .pointer (some ⟨b, off, none⟩)) {i j k : Int} (h : CsIn b off (idc i j k) w)
    (kk : wpList Tryz.prog ops Q rest (A.put o.dst (.agg (idc i j k))) w) : wpList Tryz.prog ops Q (o :: rest) A w :=
  wpList_plain hgd fun _ hK => by
    unfold Oper.wp execOp
    simp only [ho, hx, Instr.loadAt, Instr.sureAddr, Sem.run_bind, Sem.run_pure, Result.andThen_ok, run_loadVar_in h Tryz.underlying29 rfl (id_size i j k)]
    exact hK _ _ kk
/-- Where the element of an ID stands; -1: nowhere. -/
def ixI (l : List El) (i : Idn) : Int := match l.findIdx? fun x => decide (x.id = i) with
  | some k => (k : Int)
  | none => -1
theorem ixI_b (l : List El) (i : Idn) : -1 ≤ ixI l i ∧ ixI l i ≤ l.length := by
  unfold ixI
  cases h : l.findIdx? fun x => decide (x.id = i) with
  | none => simp only; omega
  | some k =>
    have := (List.findIdx?_eq_some_iff_getElem.1 h).1
    simp only
    omega
theorem ixI_has (l : List El) (i : Idn) : decide (0 ≤ ixI l i) = hasI l i := by
  unfold ixI hasI
  cases h : l.findIdx? fun x => decide (x.id = i) with
  | none =>
    have := List.findIdx?_eq_none_iff.1 h
    have h2 : (l.any fun x => decide (x.id = i)) = false := by
      rw [List.any_eq_false]
      intro x hx
      simpa using this x hx
    rw [h2]
    decide
  | some k =>
    obtain ⟨h1, h2, _⟩ := List.findIdx?_eq_some_iff_getElem.1 h
    have h3 : (l.any fun x => decide (x.id = i)) = true := List.any_eq_true.2 ⟨_, List.getElem_mem h1, h2⟩
    rw [h3]
    simp
theorem eqI_any (a b c x y z : Int) (w : World) : (Op.equalIn 10000 29 (.agg (idc a b c)) (.agg (idc x y z))).run Tryz.prog w = .ok (decide ((⟨a, b, c⟩ : Idn) = ⟨x, y, z⟩)) w := by
  unfold idc
  by_cases h1 : a = x
  · by_cases h2 : b = y
    · by_cases h3 : c = z
      · subst h1 h2 h3
        simp [go_sem]
      · have e3 : (c == z) = false := by rw [beq_eq_false_iff_ne]; exact h3
        subst h1 h2
        simp [go_sem, e3, h3]
    · have e2 : (b == y) = false := by rw [beq_eq_false_iff_ne]; exact h2
      subst h1
      simp [go_sem, e2, h2]
  · have e1 : (a == x) = false := by rw [beq_eq_false_iff_ne]; exact h1
    simp [go_sem, e1, h1]

theorem ixI_at {l : List El} {i : Idn} {k : Nat} {e : El} (he : l[k]? = some e) (h : e.id = i) (hno : ∀ (m : Nat) (x : El), m < k → l[m]? = some x → x.id ≠ i) : ixI l i = (k : Int) := by
  obtain ⟨hk1, hk2⟩ := List.getElem?_eq_some_iff.1 he
  unfold ixI
  have h1 : (l.findIdx? fun x => decide (x.id = i)) = some k := by
    refine List.findIdx?_eq_some_iff_getElem.2 ⟨hk1, ?_, fun j hj => ?_⟩
    · rw [hk2]; simpa using h
    · have := hno j l[j] hj (List.getElem?_eq_getElem (by omega))
      simpa using this
  rw [h1]
theorem ixI_no {l : List El} {i : Idn} (hno : ∀ (m : Nat) (x : El), m < l.length → l[m]? = some x → x.id ≠ i) : ixI l i = -1 := by
  unfold ixI
  have h1 : (l.findIdx? fun x => decide (x.id = i)) = none := by
    refine List.findIdx?_eq_none_iff.2 fun x hx => ?_
    obtain ⟨m, hm⟩ := List.getElem?_of_mem hx
    have := hno m x (List.getElem?_eq_some_iff.1 hm).1 hm
    simpa using this
  rw [h1]
set_option maxHeartbeats 2000000 in
theorem refIndex_any {w : World} {v : Value} {l : List El} (hv : SlE w v l) (i : Idn) (hn : l.length ≤ 1000000) :
    Calls Tryz.prog 26 #[v, .agg (idc i.a i.b i.c)] w fun r w' => r = .returned (.int .i64 (ixI l i)) ∧ Below w.heap.size w w' := by
  obtain ⟨a0, c0, rfl⟩ := hv.form
  have r0 := row_new w (idc i.a i.b i.c) 29
  have hB0 := below_one w (.cells (idc i.a i.b i.c) 29)
  go_enter Tryz.func26, Tryz.ntmps26
  go_upto_region 1 with fail
  change Code.wp _ _ _ _ (w.alloc (.cells (idc i.a i.b i.c) 29))
  generalize w.alloc (.cells (idc i.a i.b i.c) 29) = w0 at r0 hB0 ⊢
  go_wp2
  go_loopw [5] (fun iv wr => ∃ k : Nat, iv = .int .i64 (k : Int) ∧ k ≤ l.length ∧ (∀ (m : Nat) (x : El), m < k → l[m]? = some x → x.id ≠ i) ∧ RowAt w.heap.size (idc i.a i.b i.c) 29 wr ∧ Below w.heap.size w wr) (fun iv _ => l.length - (intOf iv).toNat)
  case atStart => exact ⟨0, rfl, Nat.zero_le _, fun m x h => absurd h (by omega), r0, hB0⟩
  case round =>
    clear r0 hB0
    obtain ⟨k, rfl, hk, hno, r0, hB⟩ := hrel
    by_cases hlt : k < l.length
    · have hki : (k : Int) < (l.length : Int) := by omega
      obtain ⟨e, he⟩ : ∃ e, l[k]? = some e := ⟨_, List.getElem?_eq_getElem hlt⟩
      rcases hv.later hB with ⟨h0, _⟩ | ⟨g, o_, c, hvv, hc⟩
      · exfalso; subst h0; simp at hlt
      simp only [Value.slice.injEq] at hvv
      obtain ⟨rfl, _, rfl⟩ := hvv
      have hce := hc k e he
      have hq := eqI_any e.ep e.rp e.no i.a i.b i.c
      by_cases q : e.id = i
      · have q2 : (⟨e.ep, e.rp, e.no⟩ : Idn) = ⟨i.a, i.b, i.c⟩ := q
        have HX := hid_of' (ixI_at he q hno)
        rw [decide_eq_true q2] at hq
        clear q q2 hno hc he
        go_upto_region 4 with fail
        refine wp_region_cls (by kernel_rfl) (by kernel_rfl) ?_
        repeat (first | go_big_quiet_skip | (go_big_quiet_want; first | (refine quiet_load_in _ _ rfl rfl (id_at hce).cls Tryz.underlying29 rfl (id_size _ _ _) ?_; simp only [Act.put, List.setIfInBounds_toArray, List.set_cons_succ, List.set_cons_zero]; go_big_quiet_on) | (refine quiet_load_in _ _ rfl rfl r0.in.cls Tryz.underlying29 rfl (id_size _ _ _) ?_; simp only [Act.put, List.setIfInBounds_toArray, List.set_cons_succ, List.set_cons_zero]; go_big_quiet_on) | (go_big_quiet_op; first | go_big_quiet_on | go_big_quiet_call ((fail)))))
        refine wpQuiet_nil ?_
        rintro w1 ⟨s1, e1⟩
        have hb1 := wOf_below s1
        rw [← e1] at hb1
        clear e1 s1
        replace hB := bgo hB hb1
        clear hb1
        go_wp2
        go_ret
        exact ⟨by rw [HX.out]; rfl, hB⟩
      · have q2 : ¬ (⟨e.ep, e.rp, e.no⟩ : Idn) = ⟨i.a, i.b, i.c⟩ := q
        have hno2 := hid_of' (fun (m : Nat) (x : El) (hm : m < k + 1) (hx : l[m]? = some x) => (show x.id ≠ i by
          by_cases e1 : m < k
          · exact hno m x e1 hx
          · obtain rfl : m = k := by omega
            rw [he] at hx
            cases hx
            exact q))
        rw [decide_eq_false q2] at hq
        clear q q2 hno hc he
        go_upto_region 4 with fail
        refine wp_region_cls (by kernel_rfl) (by kernel_rfl) ?_
        repeat (first | go_big_quiet_skip | (go_big_quiet_want; first | (refine quiet_load_in _ _ rfl rfl (id_at hce).cls Tryz.underlying29 rfl (id_size _ _ _) ?_; simp only [Act.put, List.setIfInBounds_toArray, List.set_cons_succ, List.set_cons_zero]; go_big_quiet_on) | (refine quiet_load_in _ _ rfl rfl r0.in.cls Tryz.underlying29 rfl (id_size _ _ _) ?_; simp only [Act.put, List.setIfInBounds_toArray, List.set_cons_succ, List.set_cons_zero]; go_big_quiet_on) | (go_big_quiet_op; first | go_big_quiet_on | go_big_quiet_call ((fail)))))
        refine wpQuiet_nil ?_
        rintro w1 ⟨s1, e1⟩
        have hb1 := wOf_below s1
        rw [← e1] at hb1
        clear e1 s1
        replace r0 := r0.later hb1
        replace hB := bgo hB hb1
        clear hb1
        go_wp2
        go_roundw
        case rel => exact ⟨k + 1, by go_num, by omega, hno2.out, r0, hB⟩
        case measure => simp [intOf]; omega
    · obtain rfl : k = l.length := by omega
      have HX := hid_of' (ixI_no hno)
      clear hno
      go_wp2
      go_ret
      exact ⟨by rw [HX.out]; rfl, hB⟩
theorem refFair_any (n : Int) (w : World) : Calls Tryz.prog 58 #[.int .i64 n] w fun r w' => r = .returned (.bool (fairH n)) ∧ w' = w := by
  by_cases h1 : -1099511627776 ≤ n
  · by_cases h2 : n ≤ 1099511627776
    · rw [show fairH n = true by unfold fairH; simp [h1, h2]]
      go_enter Tryz.func58, Tryz.ntmps58
      go_wp2
      go_ret
      exact ⟨rfl, rfl⟩
    · rw [show fairH n = false by unfold fairH; simp [h2]]
      go_enter Tryz.func58, Tryz.ntmps58
      go_wp2
      go_ret
      exact ⟨rfl, rfl⟩
  · rw [show fairH n = false by unfold fairH; simp [h1]]
    go_enter Tryz.func58, Tryz.ntmps58
    go_wp2
    go_ret
    exact ⟨rfl, rfl⟩
def codeK : Option Nat → Int
  | none => 0
  | some k => (k : Int) + 1
set_option maxHeartbeats 2000000 in
theorem wrong_any {w : World} {v : Value} {l : List El} (hv : SlE w v l) (e : El) (hn : l.length ≤ 1000000) :
    Calls Tryz.prog 52 #[v, .agg (ev e)] w fun r w' => r = .returned (.int .i64 (codeK (wrK l e))) ∧ Below w.heap.size w w' := by
  have r0 := row_new w (ev e) 66
  have hB := below_one w (.cells (ev e) 66)
  have HI := hid_of' (refIndex_any (hv.later hB) e.id hn)
  have HV := hid_of' (refRight_any e.ch)
  have HF := hid_of' (refFair_any e.hd)
  have hx := ixI_has l e.id
  have hxb := ixI_b l e.id
  obtain ⟨a0, c0, rfl⟩ := hv.form
  unfold El.id at HI
  go_enter Tryz.func52, Tryz.ntmps52
  go_upto_region 1 with fail
  change Code.wp _ _ _ _ (w.alloc (.cells (ev e) 66))
  generalize w.alloc (.cells (ev e) 66) = w0 at r0 hB HI ⊢
  have d3 : w0.cell? ⟨w.heap.size, 3, none⟩ = some (.int .i32 e.ch) := r0.cell 3
  have d4 : w0.cell? ⟨w.heap.size, 4, none⟩ = some (.int .i64 e.hd) := r0.cell 4
  have hid := id_at r0.in
  cases hc : rightC e.ch with
  | false =>
    have HK : Hid (wrK l e = some 2) := by show _ = _; unfold wrK flK; rw [if_pos hc]
    rw [hc] at HV
    clear HF HI hx hxb
    go_wp2_with (go_at_call 81; refine (HV.out _).mono ?_; rintro r w2 ⟨rfl, hw⟩; obtain rfl := hw.symm)
    go_ret
    exact ⟨by rw [HK.out]; rfl, hB⟩
  | true =>
    rw [hc] at HV
    cases hh : fairH e.hd with
    | false =>
      have HK : Hid (wrK l e = some 0) := by show _ = _; unfold wrK flK; rw [if_neg (by rw [hc]; decide), if_pos hh]
      rw [hh] at HF
      clear HI hx hxb
      go_wp2_with (first | (go_at_call 81; refine (HV.out _).mono ?_; rintro r w2 ⟨rfl, hw⟩; obtain rfl := hw.symm) | (go_at_call 58; refine (HF.out _).mono ?_; rintro r w2 ⟨rfl, hw⟩; obtain rfl := hw.symm))
      go_ret
      exact ⟨by rw [HK.out]; rfl, hB⟩
    | true =>
      rw [hh] at HF
      cases hq : hasI l e.id with
      | false =>
        have HK : Hid (wrK l e = none) := by show _ = _; unfold wrK flK; rw [if_neg (by rw [hc]; decide), if_neg (by rw [hh]; decide), if_neg (by rw [hq]; decide)]
        rw [hq] at hx
        have hz : ¬ 0 ≤ ixI l e.id := of_decide_eq_false hx
        clear hx hxb
        unfold El.id at hz
        generalize ixI l ⟨e.ep, e.rp, e.no⟩ = z at HI hz
        go_wp2_with (first | (refine wpL_loadI rfl _ rfl rfl hid ?_) | (go_at_call 81; refine (HV.out _).mono ?_; rintro r w2 ⟨rfl, hw⟩; obtain rfl := hw.symm) | (go_at_call 58; refine (HF.out _).mono ?_; rintro r w2 ⟨rfl, hw⟩; obtain rfl := hw.symm) | (go_at_call 26; refine HI.out.mono ?_; rintro r w2 ⟨rfl, hb2⟩))
        go_ret
        exact ⟨by rw [HK.out]; rfl, bgo hB hb2⟩
      | true =>
        have HK : Hid (wrK l e = some 8) := by show _ = _; unfold wrK flK; rw [if_neg (by rw [hc]; decide), if_neg (by rw [hh]; decide), if_pos hq]
        rw [hq] at hx
        have hz : 0 ≤ ixI l e.id := of_decide_eq_true hx
        clear hx hxb
        unfold El.id at hz
        generalize ixI l ⟨e.ep, e.rp, e.no⟩ = z at HI hz
        go_wp2_with (first | (refine wpL_loadI rfl _ rfl rfl hid ?_) | (go_at_call 81; refine (HV.out _).mono ?_; rintro r w2 ⟨rfl, hw⟩; obtain rfl := hw.symm) | (go_at_call 58; refine (HF.out _).mono ?_; rintro r w2 ⟨rfl, hw⟩; obtain rfl := hw.symm) | (go_at_call 26; refine HI.out.mono ?_; rintro r w2 ⟨rfl, hb2⟩))
        go_ret
        exact ⟨by rw [HK.out]; rfl, bgo hB hb2⟩
end Go.Proofs.YtjopeojnlibagaaGreatDoor
namespace Go.Proofs.YtjopeojnlibagaaGreatDoor
open Go.RowKit Go.Extern.Stop Go.Stop Go.Extern
set_option maxRecDepth 100000

def Rmx (tb kb mb : Nat) (h1 : tb < kb) (h2 : kb < mb) : Rows := ⟨fun g => g ≤ tb ∨ g = kb ∨ g = mb, mb + 1, fun g h => by omega⟩
set_option maxHeartbeats 1000000 in
/-- Of, where nothing is wrong. -/
theorem of_okX {w : World} {u : Value} {l : List El} (hu : SlE w u l) (hn : l.length ≤ 1000000) (hg : ∀ (i : Nat) (e : El), l[i]? = some e → e.Good) (hd : Apart l) :
    Calls Tryz.prog 34 #[u] w fun r w' => ∃ mb tb kb n R, n = l.length ∧ (∀ x, x < w.heap.size → R.no x) ∧ r = .returned (.tuple #[pv mb, .nilIface]) ∧ w.heap.size ≤ tb ∧ tb < kb ∧ kb < mb ∧ MdAt mb tb kb n R l (rkF l l.length l.length) w' ∧ Below w.heap.size w w' := by
  obtain ⟨a', c', rfl⟩ := hu.form
  have HR := hid_of' (roomy_any l.length w)
  have HG : Hid (∀ g o_ c, (Value.slice a' l.length c') = .slice (some ⟨g, o_, none⟩) l.length c → l ≠ [] → g < w.heap.size) := by
    intro g o_ c hv h0
    rcases hu with h | ⟨g2, o2, c2, hv2, hc⟩
    · exact absurd h.1 h0
    · rw [hv] at hv2
      cases hv2
      exact hc.lt h0
  go_enter Tryz.func34, Tryz.ntmps34
  unfold pv at HR
  go_wp2_with (go_at_call 64; refine HR.out.mono ?_; rintro r w1 ⟨mb, tb, kb, rfl, q1, q2, q3, hm1, ht1, hM1, hb1⟩)
  clear HR
  have hu1 := hu.later hb1
  go_loopw [13] (fun i wr => ∃ k : Nat, i = .int .i64 (k : Int) ∧ k ≤ l.length ∧ RowAt mb #[pv tb, .map (some kb)] 107 wr ∧ RowAt tb #[.int .i64 32, .pointer none] 151 wr ∧ MpAt kb k (rkF l l.length k) wr ∧ SlE wr (.slice a' l.length c') l ∧ Below w.heap.size w wr) (fun i _ => l.length - (intOf i).toNat)
  case atStart => exact ⟨0, rfl, Nat.zero_le _, hm1, ht1, hM1, hu1, hb1⟩
  case round =>
    obtain ⟨k, rfl, hk, hm, ht, hM, hs, hB⟩ := hrel
    clear hm1 ht1 hM1 hu1 hb1
    by_cases hlt : k < l.length
    · have hki : (k : Int) < (l.length : Int) := by omega
      obtain ⟨e, he⟩ : ∃ e, l[k]? = some e := ⟨_, List.getElem?_eq_getElem hlt⟩
      obtain ⟨gi, gc, gh⟩ := hg k e he
      have hfn : (rkF l l.length k e.id).isSome = false := by rw [rkF_none (fun j x hj hx => hd j k x e hj hx he)]; rfl
      rcases hs with ⟨h0, _⟩ | ⟨g, o_, c, hv, hc⟩
      · exfalso; subst h0; simp at hlt
      simp only [Value.slice.injEq] at hv
      obtain ⟨rfl, _, rfl⟩ := hv
      have hce := hc k e he
      go_upto_region 5 with (first | (refine wpL_loadE rfl _ rfl rfl hce ?_) | (refine wpL_storeE rfl _ _ rfl rfl rfl (row_new wr _ _) ?_))
      have hr5 := (row_new wr #[.int .i64 0, .int .i64 0, .int .i64 0, .int .i32 0, .int .i64 0] 66).put (ev e)
      have hB5 : Below wr.heap.size wr ((wr.alloc (.cells #[.int .i64 0, .int .i64 0, .int .i64 0, .int .i32 0, .int .i64 0] 66)).setRow wr.heap.size (ev e)) := below_row (below_one wr _) (Nat.le_refl _) _
      generalize (wr.alloc (.cells #[.int .i64 0, .int .i64 0, .int .i64 0, .int .i32 0, .int .i64 0] 66)).setRow wr.heap.size (ev e) = W5 at hr5 hB5 ⊢
      have HF := hid_of' (flaw_ok (hm.later hB5) (hM.later hB5) gi gc gh hfn)
      have HI := hid_of' gi
      have HM := hid_of' hM
      have HS := hid_of' (show SlE wr (.slice (some ⟨g, o_, none⟩) l.length c') l from .inr ⟨g, o_, c', rfl, hc⟩)
      clear hM hfn gi gc gh hce hc
      unfold pv at HF
      go_upto_region 8 with (first | (refine wpL_loadE rfl _ rfl rfl hr5.in ?_) | (go_at_call 55; refine HF.out.mono ?_; rintro r W8 ⟨rfl, hb8⟩; clear HF))
      have hB8 := bgo hB5 hb8
      have hm8 := hm.later hB8
      have hI8 : CsIn wr.heap.size 0 (idc e.id.a e.id.b e.id.c) W8 := id_at (hr5.later hb8).in
      clear hr5 hb8 hB5
      refine wp_region_tail 10 (by kernel_rfl) (fun _ => none) (by kernel_rfl) (by kernel_rfl) (by decide) (fun i v x => match i with
        | 0 => v = .pointer (some ⟨mb, 0, none⟩)
        | 1 => v = .pointer (some ⟨mb, 0, none⟩)
        | 2 => v = .pointer (some ⟨mb, 1, none⟩)
        | 3 => v = .map (some kb)
        | 4 => v = .pointer (some ⟨wr.heap.size, 0, none⟩)
        | 5 => v = .agg (idc e.id.a e.id.b e.id.c)
        | 6 => v = .int .i64 (k : Int)
        | 7 => v = .slice (some ⟨g, o_, none⟩) l.length c'
        | 8 => v = .int .i64 (l.length : Int)
        | 9 => v = .int .i64 (rankN k l.length)
        | _ => True) (fun _ => false) (fun _ _ _ _ h => by cases h) ?_ ?_ ?_
      · intro i v x x' hR hb
        match i, hR with
        | 0, h => exact h
        | 1, h => exact h
        | 2, h => exact h
        | 3, h => exact h
        | 4, h => exact h
        | 5, h => exact h
        | 6, h => exact h
        | 7, h => exact h
        | 8, h => exact h
        | 9, h => exact h
        | m + 10, h => exact h
      · intro i o hi ho q x vals hX hdep hoth
        have t0 : q.tmps[0]? = some (.slice (some ⟨g, o_, none⟩) l.length c') := by rw [hoth 0 (by kernel_rfl)]; rfl
        have t4 : q.tmps[4]? = some (.pointer (some ⟨mb, 0, none⟩)) := by rw [hoth 4 (by kernel_rfl)]; rfl
        have t5 : q.tmps[5]? = some (.int .i64 (k : Int)) := by rw [hoth 5 (by kernel_rfl)]; rfl
        have t6 : q.tmps[6]? = some (.pointer (some ⟨wr.heap.size, 0, none⟩)) := by rw [hoth 6 (by kernel_rfl)]; rfl
        match i, hi, ho with
        | 0, _, ho =>
          simp only [List.getElem?_cons_zero, Option.some.injEq] at ho
          subst ho
          unfold Oper.wp
          simp [execOp, go_sem, t4]
          exact came _ rfl (Below.refl _ _) rfl (fun h => absurd h (by decide))
        | 1, _, ho =>
          simp only [List.getElem?_cons_succ, List.getElem?_cons_zero, Option.some.injEq] at ho
          subst ho
          obtain ⟨u0, e0⟩ := hdep ⟨0, .data⟩ (by simp) rfl _ 26 rfl rfl
          rw [show vals 0 = .pointer (some ⟨mb, 0, none⟩) from e0] at u0
          unfold Oper.wp
          simp [execOp, go_sem, u0]
          exact came _ rfl (Below.refl _ _) rfl (fun h => absurd h (by decide))
        | 2, _, ho =>
          simp only [List.getElem?_cons_succ, List.getElem?_cons_zero, Option.some.injEq] at ho
          subst ho
          obtain ⟨u1, e1⟩ := hdep ⟨1, .data⟩ (by simp) rfl _ 27 rfl rfl
          rw [show vals 1 = .pointer (some ⟨mb, 0, none⟩) from e1] at u1
          unfold Oper.wp
          simp [execOp, go_sem, u1]
          exact came _ rfl (Below.refl _ _) rfl (fun h => absurd h (by decide))
        | 3, _, ho =>
          simp only [List.getElem?_cons_succ, List.getElem?_cons_zero, Option.some.injEq] at ho
          subst ho
          obtain ⟨u2, e2⟩ := hdep ⟨2, .data⟩ (by simp) rfl _ 28 rfl rfl
          rw [show vals 2 = .pointer (some ⟨mb, 1, none⟩) from e2] at u2
          have cc : x.cell? ⟨mb, 1, none⟩ = some (.map (some kb)) := (hm8.later hX).cell 1
          unfold Oper.wp
          simp [execOp, go_sem, u2, cc]
          exact came _ rfl (Below.refl _ _) rfl (fun h => absurd h (by decide))
        | 4, _, ho =>
          simp only [List.getElem?_cons_succ, List.getElem?_cons_zero, Option.some.injEq] at ho
          subst ho
          unfold Oper.wp
          simp [execOp, go_sem, t6]
          exact came _ rfl (Below.refl _ _) rfl (fun h => absurd h (by decide))
        | 5, _, ho =>
          simp only [List.getElem?_cons_succ, List.getElem?_cons_zero, Option.some.injEq] at ho
          subst ho
          obtain ⟨u4, e4⟩ := hdep ⟨4, .data⟩ (by simp) rfl _ 30 rfl rfl
          rw [show vals 4 = .pointer (some ⟨wr.heap.size, 0, none⟩) from e4] at u4
          exact opw_loadI _ rfl (by simp [Act.eval, u4]) (hI8.later hX) (came _ rfl (Below.refl _ _) rfl (fun h => absurd h (by decide)))
        | 6, _, ho =>
          simp only [List.getElem?_cons_succ, List.getElem?_cons_zero, Option.some.injEq] at ho
          subst ho
          unfold Oper.wp
          simp [execOp, go_sem, t5]
          exact came _ rfl (Below.refl _ _) rfl (fun h => absurd h (by decide))
        | 7, _, ho =>
          simp only [List.getElem?_cons_succ, List.getElem?_cons_zero, Option.some.injEq] at ho
          subst ho
          unfold Oper.wp
          simp [execOp, go_sem, t0]
          exact came _ rfl (Below.refl _ _) rfl (fun h => absurd h (by decide))
        | 8, _, ho =>
          simp only [List.getElem?_cons_succ, List.getElem?_cons_zero, Option.some.injEq] at ho
          subst ho
          obtain ⟨u7, e7⟩ := hdep ⟨7, .data⟩ (by simp) rfl _ 33 rfl rfl
          rw [show vals 7 = .slice (some ⟨g, o_, none⟩) l.length c' from e7] at u7
          unfold Oper.wp
          simp [go_sem, u7]
          exact came _ rfl (Below.refl _ _) rfl (fun h => absurd h (by decide))
        | 9, _, ho =>
          simp only [List.getElem?_cons_succ, List.getElem?_cons_zero, Option.some.injEq] at ho
          subst ho
          obtain ⟨u6, e6⟩ := hdep ⟨6, .data⟩ (by simp) rfl _ 32 rfl rfl
          rw [show vals 6 = .int .i64 (k : Int) from e6] at u6
          obtain ⟨u8, e8⟩ := hdep ⟨8, .data⟩ (by simp) rfl _ 34 rfl rfl
          rw [show vals 8 = .int .i64 (l.length : Int) from e8] at u8
          unfold Oper.wp
          simp [go_sem, u6, u8]
          refine (evenRank_0 (k : Int) (l.length : Int) x (by omega) (by omega)).mono ?_
          rintro r x1 ⟨rfl, hw1⟩; have hb1 : Below x.heap.size x x1 := by rw [hw1]; exact Below.refl _ _
          exact came _ rfl hb1 rfl (fun h => absurd h (by decide))
        | m + 10, hi, _ => exact absurd hi (by omega)
      · intro vals x' hX hR _
        have r3 : vals 3 = .map (some kb) := hR 3 (by decide)
        have r5 : vals 5 = .agg (idc e.id.a e.id.b e.id.c) := hR 5 (by decide)
        have r9 : vals 9 = .int .i64 (rankN k l.length) := hR 9 (by decide)
        have hb9 := bgo hB8 hX
        have hM9 := HM.out.later hb9
        have hrb := rankN_b (k := (k : Int)) (n := (l.length : Int)) (by omega) hki
        simp only [List.take, List.drop, putAll, r3, r5, r9]
        have HZ : Hid (In64 (rankN k l.length) ∧ k < 1099511627776) := ⟨⟨by omega, by omega⟩, by omega⟩
        clear hrb
        simp only [List.setIfInBounds_toArray, List.set_cons_succ, List.set_cons_zero]
        refine wpL_mapPut rfl _ _ _ rfl hM9 HI.out rfl rfl rfl HZ.out.1 HZ.out.2 ?_
        intro w9 hM' hgr
        simp only [Act.put]
        go_wp2
        have hkp := Kp.of_grown hgr
        have hlk := hM9.lt
        clear hM9 r3 r5 r9 hR
        go_roundw
        case rel =>
          refine ⟨k + 1, by go_num, by omega, (hm.later hb9).kp hkp (by omega), (ht.later hb9).kp hkp (by omega), ?_, (HS.out.later hb9).kp hkp ?_, hkp.new (bgo hB hb9) (by omega)⟩
          · rw [← rkF_next he]; exact hM'
          · intro g2 o2 c2 e2 hl2
            have e3 := HG.out g2 o2 c2 e2 hl2
            omega
        case measure => simp [intOf]; omega
    · obtain rfl : k = l.length := by omega
      have c0 : wr.cell? ⟨mb, 0, none⟩ = some (.pointer (some ⟨tb, 0, none⟩)) := hm.cell 0
      have hT : TrL (Rmx tb kb mb q2 q3) tb 32 [] wr := ⟨[], .pointer none, ht, .inl ⟨rfl, rfl⟩, rfl, trivial⟩
      have hlm := hm.lt
      have HI := hid_of' (insert_any hT 0 l _ hs (Nat.le_refl _) (by simp; omega) (.inl (Nat.le_refl _)) (by decide) (by decide) hlm)
      unfold pv at HI
      clear hT ht
      go_wp2_with (go_at_call 57; refine HI.out.mono ?_; rintro r w9 ⟨rfl, hT9, hkp⟩)
      go_ret2
      refine ⟨mb, tb, kb, l.length, Rmx tb kb mb q2 q3, rfl, (fun x hx => .inl (by omega)), rfl, q1, q2, q3, ⟨hm.kp hkp (by omega), ?_, hM.kp hkp (by omega), .inl (Nat.le_refl _), .inr (.inr rfl), Nat.le_trans hlm hkp.size⟩, hkp.new hB q1⟩
      simpa using hT9

/-- Of this many the first ones are right. -/
def FineTo (l : List El) (j : Nat) : Prop := ∀ (i : Nat) (x : El), i < j → l[i]? = some x → wrK (l.take i) x = none
theorem fine_or (l : List El) : FineTo l l.length ∨ ∃ j e kk, l[j]? = some e ∧ wrK (l.take j) e = some kk ∧ FineTo l j := by
  suffices h : ∀ j, j ≤ l.length → FineTo l j ∨ ∃ j e kk, l[j]? = some e ∧ wrK (l.take j) e = some kk ∧ FineTo l j from h _ (Nat.le_refl _)
  intro j
  induction j with
  | zero => intro _; exact .inl fun i x h => absurd h (by omega)
  | succ j ih =>
    intro hj
    rcases ih (by omega) with h | h
    · obtain ⟨e, he⟩ : ∃ e, l[j]? = some e := ⟨_, List.getElem?_eq_getElem (by omega)⟩
      cases hw : wrK (l.take j) e with
      | none =>
        refine .inl fun i x hi hx => ?_
        by_cases q : i < j
        · exact h i x q hx
        · obtain rfl : i = j := by omega
          rw [he] at hx
          cases hx
          exact hw
      | some kk => exact .inr ⟨j, e, kk, he, hw, h⟩
    · exact .inr h
theorem wrK_lt {l : List El} {e : El} {kk : Nat} (h : wrK l e = some kk) : kk < 13 := by
  unfold wrK flK at h
  split at h
  · cases h; decide
  · split at h
    · cases h; decide
    · split at h
      · cases h; decide
      · cases h
theorem wrK_none {l : List El} {e : El} (h : wrK l e = none) : rightC e.ch = true ∧ fairH e.hd = true ∧ hasI l e.id = false := by
  unfold wrK flK at h
  split at h
  · cases h
  · split at h
    · cases h
    · split at h
      · cases h
      · simp_all
theorem FineTo.good {l : List El} {j : Nat} (h : FineTo l j) (hin : ∀ (i : Nat) (e : El), l[i]? = some e → e.id.In) (i : Nat) (e : El) (hi : i < j) (he : l[i]? = some e) : e.Good := ⟨hin i e he, (wrK_none (h i e hi he)).1, (wrK_none (h i e hi he)).2.1⟩
theorem FineTo.apart {l : List El} {j : Nat} (h : FineTo l j) (i m : Nat) (x y : El) (him : i < m) (hm : m < j) (hx : l[i]? = some x) (hy : l[m]? = some y) : x.id ≠ y.id := by
  intro q
  have h1 := (wrK_none (h m y hm hy)).2.2
  have h2 : x ∈ l.take m := List.mem_iff_getElem?.2 ⟨i, by rw [List.getElem?_take, if_pos him]; exact hx⟩
  have h3 : hasI (l.take m) y.id = true := List.any_eq_true.2 ⟨x, h2, by simpa using q⟩
  rw [h1] at h3
  cases h3
theorem rowKeptE {g base : Nat} {cs : Array Value} {ty : TypeId} {v : Value} {l : List El} {w w' : World} (h : RowAt g cs ty w) (h2 : OwnE base v l w) (hne : ty ≠ 66) (hg : w.grownBy w' v.ownBlock) : RowAt g cs ty w' := by
  refine (hg.block _ h.lt ?_).trans h
  intro e9
  rcases h2.2 with ⟨a1, _⟩ | ⟨g9, cap, cur, a1, _, a3, _⟩
  · rw [a1] at e9; simp [Value.ownBlock] at e9
  · rw [a1] at e9
    simp only [Value.ownBlock, Option.some.injEq] at e9
    subst e9
    rw [show w.heap[g]? = _ from h] at a3
    cases a3
    exact hne rfl
theorem ownE_kp2 {x base : Nat} {v : Value} {l : List El} {w w' : World} (h : OwnE base v l w) (k : Kp x w w') (hx : ∀ g n c, v = .slice (some ⟨g, 0, none⟩) n c → ¬ g = x) : OwnE base v l w' := by
  refine ⟨h.1, ?_⟩
  rcases h.2 with h1 | ⟨g, cap, cur, h1, h2, h3, h4⟩
  · exact .inl h1
  · exact .inr ⟨g, cap, cur, h1, h2, (k.block g (Array.getElem?_eq_some_iff.1 h3).1 (hx _ _ _ h1)).trans h3, h4⟩
theorem rowNot {g base : Nat} {cs : Array Value} {ty : TypeId} {v : Value} {l : List El} {w : World} (h : RowAt g cs ty w) (h2 : OwnE base v l w) (hne : ty ≠ 66) : ∀ g' n c, v = .slice (some ⟨g', 0, none⟩) n c → ¬ g' = g := by
  intro g' n c e1 e2
  subst e2
  rcases h2.2 with ⟨a1, _⟩ | ⟨g9, cap, cur, a1, _, a3, _⟩
  · rw [e1] at a1; cases a1
  · rw [e1] at a1
    cases a1
    rw [show w.heap[g']? = _ from h] at a3
    cases a3
    exact hne rfl
theorem results_tNo {fn : Func} {t u : Tmp} {tmps : Array Value} {w : World} {g' : Nat} {cs : Array Value} (h : fn.results = #[.tmp t, .cell u 38]) (hu : tmps.getD u undef = .pointer (some ⟨g', 0, none⟩)) (hg' : RowAt g' cs 38 w) (hs : cs.size = 3) :
    (results fn tmps).run Tryz.prog w = .ok (.tuple #[tmps.getD t undef, .agg cs]) w := by
  have hu' : tmps[u]?.getD undef = .pointer (some ⟨g', 0, none⟩) := by simpa using hu
  have hi : (Tryz.prog.info? 38).map (·.size) = some cs.size := by rw [hs]; exact no_size
  simp [results, h, hu', asAddr, run_loadVar_row w g' _ _ _ _ _ hg' Tryz.underlying38 rfl hi]

end Go.Proofs.YtjopeojnlibagaaGreatDoor
namespace Go.Proofs.YtjopeojnlibagaaGreatDoor
open Go.RowKit Go.Extern.Stop Go.Stop Go.Extern
set_option maxRecDepth 100000

theorem opw_loadNo {o : Oper} {A : Act} {w : World} {K : Act → World → Prop} {Q : Exit → Act → World → Prop} (x : Operand) (ho : o.op = .load 38 x) {b : Nat} (hx : A.eval x = .pointer (some ⟨b, 0, none⟩)) {cs : Array Value} (h : RowAt b cs 38 w) (hs : cs.size = 3) (k : K (A.put o.dst (.agg cs)) w) : o.wp Tryz.prog A w K Q := by
  have hi : (Tryz.prog.info? 38).map (·.size) = some cs.size := by rw [hs]; exact no_size
  unfold Oper.wp execOp
  simp only [ho, hx, Instr.loadAt, Instr.sureAddr, Sem.run_bind, Sem.run_pure, Result.andThen_ok, run_loadVar_in h.in Tryz.underlying38 rfl hi]
  exact k
theorem MdAt.kpx {mb tb kb n x : Nat} {R : Rows} {l : List El} {f : Idn → Option Int} {w w' : World} {cs : Array Value} {tx : TypeId} (h : MdAt mb tb kb n R l f w) (hno : R.no x) (hr : RowAt x cs tx w) (hne : ¬ tx = 158) (k : Kp x w w') (h1 : ¬ mb = x) (h2 : ¬ tb = x) (h3 : ¬ kb = x) : MdAt mb tb kb n R l f w' :=
  ⟨h.row.kp k h1, h.tree.kp hno hr hne k h2, h.map.kp k h3, h.no, h.nom, Nat.le_trans h.hi k.size⟩
theorem mdLater {mb tb kb n : Nat} {R : Rows} {l : List El} {f : Idn → Option Int} {w w' : World} (h : MdAt mb tb kb n R l f w) (hb : Below w.heap.size w w') : MdAt mb tb kb n R l f w' :=
  ⟨h.row.later hb, h.tree.later hb, h.map.later hb, h.no, h.nom, Nat.le_trans h.hi hb.size⟩
theorem rowsNe {g g' : Nat} {cs cs' : Array Value} {t t' : TypeId} {w : World} (h : RowAt g cs t w) (h' : RowAt g' cs' t' w) (ht : ¬ t = t') : ¬ g = g' := by
  intro e
  subst e
  have h2 := (show w.heap[g]? = _ from h).symm.trans (show w.heap[g]? = _ from h')
  cases h2
  exact ht rfl
end Go.Proofs.YtjopeojnlibagaaGreatDoor
namespace Go.Proofs.YtjopeojnlibagaaGreatDoor
open Go.RowKit Go.Extern.Stop Go.Stop Go.Extern
set_option maxRecDepth 100000

def bAt : ByteArray := ⟨#[65, 116]⟩
def e00 : El := ⟨0, 0, 0, 0, 0⟩
theorem outOfRangeM {ad : Nat → Addr} (ca : ByteArray) (at_ : Int) {w : World} (L : Laid ad w) :
    Calls Tryz.prog 85 #[.string ca, .int .i64 at_] w fun e w' => e = .returned (.iface 115 (.pointer (some ⟨w.heap.size, 0, none⟩))) ∧ Below w.heap.size w w' := by
  have LV : w.cell? ⟨1, 0, none⟩ = some (.iface 229 (.pointer (some (ad 1)))) := L.var 1 (by decide)
  have HF := hid_of' (newT (ad := ad) bTree ca at_ 1 w)
  clear L
  go_enter Tryz.func85, Tryz.ntmps85
  go_wp2_with (go_at_call 35; refine HF.out.mono ?_; rintro r w1 ⟨rfl, hf, hb1⟩)
  go_ret
  exact ⟨rfl, hb1⟩
set_option maxHeartbeats 2000000 in
theorem at_out {ad : Nat → Addr} {R : Rows} {b ch : Nat} {l : List El} {w : World} (h : TrL R b ch l w) (L : Laid ad w) :
    Calls Tryz.prog 60 #[pv b, .int .i64 (l.length : Int)] w fun r w' => ∃ g, r = .returned (.tuple #[.agg (ev e00), .iface 115 (.pointer (some ⟨g, 0, none⟩))]) ∧ Below w.heap.size w w' := by
  have hB := below_one w (.cells (ev e00) 66)
  have r4 := row_new w (ev e00) 66
  have HL := hid_of' (len_L (h.later hB))
  have e1 : ¬ (l.length : Int) < 0 := by omega
  unfold pv at *
  have hz := hB.size
  go_enter Tryz.func60, Tryz.ntmps60
  go_upto_region 1 with fail
  change Code.wp _ _ _ _ (w.alloc (.cells (ev e00) 66))
  have hs4 : (w.alloc (.cells (ev e00) 66)).heap.size = w.heap.size + 1 := by simp
  generalize w.alloc (.cells (ev e00) 66) = w4 at hB r4 HL hs4 hz ⊢
  go_upto_region 3 with (go_at_call 76; refine HL.out.mono ?_; rintro r w1 ⟨rfl, hw⟩; obtain rfl := hw.symm)
  change Code.wp _ _ _ _ (w4.alloc (.cells (ev e00) 66))
  have r6 := row_new w4 (ev e00) 66
  have hB6 := bgo hB (below_one w4 (.cells (ev e00) 66))
  replace r4 := r4.later (below_one w4 (.cells (ev e00) 66))
  rw [hs4] at r6
  generalize w4.alloc (.cells (ev e00) 66) = w6 at hB6 r4 r6 ⊢
  refine wp_region_tail 3 (by kernel_rfl) (fun _ => none) (by kernel_rfl) (by kernel_rfl) (by decide) (fun i v x => match i with
    | 0 => v = .agg (ev e00)
    | 1 => v = .int .i64 (l.length : Int)
    | 2 => ∃ g, v = .iface 115 (.pointer (some ⟨g, 0, none⟩))
    | _ => True) (fun _ => false) (fun _ _ _ _ h => by cases h) ?_ ?_ ?_
  · intro i v x x' hR hb
    match i, hR with
    | 0, h => exact h
    | 1, h => exact h
    | 2, h => exact h
    | m + 3, h => exact h
  · intro i o hi ho q x vals hX hdep hoth
    have t1 : q.tmps[1]? = some (.int .i64 (l.length : Int)) := by rw [hoth 1 (by kernel_rfl)]; rfl
    have t6 : q.tmps[6]? = some (.pointer (some ⟨w.heap.size + 1, 0, none⟩)) := by rw [hoth 6 (by kernel_rfl)]; rfl
    match i, hi, ho with
    | 0, _, ho =>
      simp only [List.getElem?_cons_zero, Option.some.injEq] at ho
      subst ho
      exact opw_loadE _ rfl (by simp [Act.eval, t6]) (r6.in.later hX) (came _ rfl (Below.refl _ _) rfl (fun h => absurd h (by decide)))
    | 1, _, ho =>
      simp only [List.getElem?_cons_succ, List.getElem?_cons_zero, Option.some.injEq] at ho
      subst ho
      unfold Oper.wp
      simp [execOp, go_sem, t1]
      exact came _ rfl (Below.refl _ _) rfl (fun h => absurd h (by decide))
    | 2, _, ho =>
      simp only [List.getElem?_cons_succ, List.getElem?_cons_zero, Option.some.injEq] at ho
      subst ho
      obtain ⟨u1, e1⟩ := hdep ⟨1, .data⟩ (by simp) rfl _ 18 rfl rfl
      rw [show vals 1 = .int .i64 (l.length : Int) from e1] at u1
      unfold Oper.wp
      simp [go_sem, u1]
      refine (outOfRangeM bAt (l.length : Int) (L.below (bgo hB6 hX))).mono ?_
      rintro r x1 ⟨rfl, hb1⟩
      exact came _ rfl hb1 ⟨_, rfl⟩ (fun h => absurd h (by decide))
    | m + 3, hi, _ => exact absurd hi (by omega)
  · intro vals x' hX hR _
    have q0 : vals 0 = .agg (ev e00) := hR 0 (by decide)
    obtain ⟨g, q2⟩ : ∃ g, vals 2 = .iface 115 (.pointer (some ⟨g, 0, none⟩)) := hR 2 (by decide)
    simp only [List.take, List.drop, putAll, q0, q2]
    simp only [List.setIfInBounds_toArray, List.set_cons_succ, List.set_cons_zero]
    have r9 := r4.later hX
    refine wpL_storeE rfl _ _ rfl rfl rfl r9 ?_
    have r8 := r9.put (ev e00)
    have hB8 := below_row (bgo hB6 hX) (Nat.le_refl _) (ev e00)
    generalize x'.setRow w.heap.size (ev e00) = w8 at r8 hB8 ⊢
    simp only [Act.put]
    go_wp2
    exact bodyPost_ret (v := .tuple #[.agg (ev e00), .iface 115 (.pointer (some ⟨g, 0, none⟩))]) (results_e2 (fn := Tryz.f60) (p := 4) (u := 5) rfl rfl r8) rfl ⟨g, rfl, hB8⟩
theorem at_end {ad : Nat → Addr} {R : Rows} {b ch : Nat} {l : List El} {w : World} (h : TrL R b ch l w) (L : Laid ad w) (i : Nat) (hi : i = l.length) :
    Calls Tryz.prog 60 #[pv b, .int .i64 (i : Int)] w fun r w' => ∃ g, r = .returned (.tuple #[.agg (ev e00), .iface 115 (.pointer (some ⟨g, 0, none⟩))]) ∧ Below w.heap.size w w' := by
  subst hi
  exact at_out h L
theorem liveL_len : ∀ l : List El, liveL l ≤ l.length
  | [] => by simp [liveL]
  | e :: l => by
    have := liveL_len l
    simp only [liveL, wLive, List.length_cons]
    split <;> omega
theorem modelOf_ok {mb : Nat} {l : List El} {w : World} (h : MvAt mb l w) (k : Int) (hn : l.length ≤ 1000000) (hk0 : 0 ≤ k) (hk1 : k < liveL l) :
    Calls Tryz.prog 67 #[pv mb, .int .i64 k] w fun r w' => r = .returned (.tuple #[.int .i64 (idxL l k : Int), .nilIface]) ∧ Below w.heap.size w w' := by
  obtain ⟨tb, v, R, h1, h2⟩ := h
  have HF := hid_of' (find_L h2 k (by omega) hk0 hk1)
  have c0 : w.cell? ⟨mb, 0, none⟩ = some (.pointer (some ⟨tb, 0, none⟩)) := h1.cell 0
  unfold pv at *
  clear h1 h2
  go_enter Tryz.func67, Tryz.ntmps67
  go_wp2_with (go_at_call 91; refine HF.out.mono ?_; rintro r w1 ⟨rfl, hb1⟩)
  go_ret2
  exact ⟨rfl, hb1⟩
/-- Is the i-th one live? -/
def isA (l : List El) (i : Nat) : Bool := match l[i]? with
  | some e => decide (e.hd ≤ 0)
  | none => false
theorem isLive_is {e : El} {b : Bool} (hb : decide (e.hd ≤ 0) = b) (w : World) : Calls Tryz.prog 63 #[.agg (ev e)] w fun r w' => r = .returned (.bool b) ∧ Below w.heap.size w w' := by
  subst hb
  exact isLive_any e w

set_option maxHeartbeats 2000000 in
theorem viewOf_t {ad : Nat → Addr} {mb : Nat} {l : List El} {w : World} (h : MvAt mb l w) (_L : Laid ad w) (hn : l.length ≤ 1000000) (i : Nat) (e : El) (he : l[i]? = some e) (hlv : decide (e.hd ≤ 0) = true) :
    Calls Tryz.prog 46 #[pv mb, .int .i64 (i : Int)] w fun r w' => r = .returned (.tuple #[.int .i64 (liveL (l.take i)), .bool true, .nilIface]) ∧ Below w.heap.size w w' := by
  obtain ⟨tb, v, R, h1, h2⟩ := h
  have hi : i ≤ l.length := by have := (List.getElem?_eq_some_iff.1 he).1; omega
  have HB := hid_of' (before_any h2 i (by omega) hi)
  have HA : Hid (∀ x, Below w.heap.size w x → _) := fun x hx => at_L (h2.later hx) i e (by omega) he
  have c0 : ∀ x, Below w.heap.size w x → x.cell? ⟨mb, 0, none⟩ = some (.pointer (some ⟨tb, 0, none⟩)) := fun x hx => (h1.later hx).cell 0
  have c00 := c0 _ (Below.refl _ _)
  unfold pv wv at *
  clear h1 h2 hi
  try clear hil
  try clear he
  generalize liveL (l.take i) = A at HB ⊢
  generalize lineL (l.take i) = B at HB
  go_enter Tryz.func46, Tryz.ntmps46
  go_upto_region 2 with (first | (go_at_call 75; refine HB.out.mono ?_; rintro r w1 ⟨rfl, hb1⟩; clear HB) | (refine wpL_storeW rfl _ _ rfl rfl rfl (row_new w1 _ _) ?_))
  have r7 := (row_new w1 #[.int .i64 0, .int .i64 0] 60).put #[.int .i64 A, .int .i64 B]
  have hb7 : Below w.heap.size w ((w1.alloc (.cells #[.int .i64 0, .int .i64 0] 60)).setRow w1.heap.size #[.int .i64 A, .int .i64 B]) := below_row (bgo hb1 (below_one w1 _)) hb1.size _
  generalize (w1.alloc (.cells #[.int .i64 0, .int .i64 0] 60)).setRow w1.heap.size #[.int .i64 A, .int .i64 B] = w2 at r7 hb7 ⊢
  have c2 := c0 _ hb7
  have g7 := r7.lt
  clear c00 c0 hb1
  generalize w1.heap.size = b7 at r7 g7 ⊢
  go_upto_region 5 with (first | (go_at_call 60; refine (HA.out _ hb7).mono ?_; rintro r w3 ⟨rfl, hb3⟩; clear HA) | (refine wpL_storeE rfl _ _ rfl rfl rfl (row_new w3 _ _) ?_))
  have r9 := (row_new w3 (ev e00) 66).put (ev e)
  have r79 : RowAt b7 #[.int .i64 A, .int .i64 B] 60 ((w3.alloc (.cells (ev e00) 66)).setRow w3.heap.size (ev e)) := (RowAt.later r7 (bgo hb3 (below_one w3 (.cells (ev e00) 66)))).kp (Kp.row _ _) (by have := hb3.size; omega)
  have hb9 : Below w.heap.size w ((w3.alloc (.cells (ev e00) 66)).setRow w3.heap.size (ev e)) := below_row (bgo hb7 (bgo hb3 (below_one w3 _))) (Nat.le_trans hb7.size hb3.size) _
  change Code.wp _ _ _ _ ((w3.alloc (.cells (ev e00) 66)).setRow w3.heap.size (ev e))
  generalize (w3.alloc (.cells (ev e00) 66)).setRow w3.heap.size (ev e) = w5 at r9 r79 hb9 ⊢
  generalize w3.heap.size = b9 at r9 ⊢
  have c5 : ∀ s : Wld w5, (wOf s).cell? ⟨b7, 0, none⟩ = some (.int .i64 A) := fun s => r79.cls 0 _ rfl s
  clear r7 g7 c2 hb7 hb3 r79
  have hB := hb9
  go_upto_region 5 with fail
  refine wp_region_cls (by kernel_rfl) (by kernel_rfl) ?_
  repeat (first | go_big_quiet_skip | (go_big_quiet_want; first | (refine quiet_load_in _ _ rfl rfl r9.in.cls Tryz.underlying66 rfl (e_size _) ?_; simp only [Act.put, List.setIfInBounds_toArray, List.set_cons_succ, List.set_cons_zero]; go_big_quiet_on) | (go_big_quiet_op; first | go_big_quiet_on | go_big_quiet_call ((go_at_call 63; exact cls_of (isLive_is hlv _))))))
  refine wpQuiet_nil ?_
  rintro w1 ⟨s1, e1⟩
  have hb1 := wOf_below s1
  rw [← e1] at hb1
  clear e1 s1
  replace hB := bgo hB hb1
  clear hb1
  go_wp2
  go_ret3
  exact ⟨rfl, hB⟩

set_option maxHeartbeats 2000000 in
theorem viewOf_f {ad : Nat → Addr} {mb : Nat} {l : List El} {w : World} (h : MvAt mb l w) (_L : Laid ad w) (hn : l.length ≤ 1000000) (i : Nat) (e : El) (he : l[i]? = some e) (hlv : decide (e.hd ≤ 0) = false) :
    Calls Tryz.prog 46 #[pv mb, .int .i64 (i : Int)] w fun r w' => r = .returned (.tuple #[.int .i64 (liveL (l.take i)), .bool false, .nilIface]) ∧ Below w.heap.size w w' := by
  obtain ⟨tb, v, R, h1, h2⟩ := h
  have hi : i ≤ l.length := by have := (List.getElem?_eq_some_iff.1 he).1; omega
  have HB := hid_of' (before_any h2 i (by omega) hi)
  have HA : Hid (∀ x, Below w.heap.size w x → _) := fun x hx => at_L (h2.later hx) i e (by omega) he
  have c0 : ∀ x, Below w.heap.size w x → x.cell? ⟨mb, 0, none⟩ = some (.pointer (some ⟨tb, 0, none⟩)) := fun x hx => (h1.later hx).cell 0
  have c00 := c0 _ (Below.refl _ _)
  unfold pv wv at *
  clear h1 h2 hi
  try clear hil
  try clear he
  generalize liveL (l.take i) = A at HB ⊢
  generalize lineL (l.take i) = B at HB
  go_enter Tryz.func46, Tryz.ntmps46
  go_upto_region 2 with (first | (go_at_call 75; refine HB.out.mono ?_; rintro r w1 ⟨rfl, hb1⟩; clear HB) | (refine wpL_storeW rfl _ _ rfl rfl rfl (row_new w1 _ _) ?_))
  have r7 := (row_new w1 #[.int .i64 0, .int .i64 0] 60).put #[.int .i64 A, .int .i64 B]
  have hb7 : Below w.heap.size w ((w1.alloc (.cells #[.int .i64 0, .int .i64 0] 60)).setRow w1.heap.size #[.int .i64 A, .int .i64 B]) := below_row (bgo hb1 (below_one w1 _)) hb1.size _
  generalize (w1.alloc (.cells #[.int .i64 0, .int .i64 0] 60)).setRow w1.heap.size #[.int .i64 A, .int .i64 B] = w2 at r7 hb7 ⊢
  have c2 := c0 _ hb7
  have g7 := r7.lt
  clear c00 c0 hb1
  generalize w1.heap.size = b7 at r7 g7 ⊢
  go_upto_region 5 with (first | (go_at_call 60; refine (HA.out _ hb7).mono ?_; rintro r w3 ⟨rfl, hb3⟩; clear HA) | (refine wpL_storeE rfl _ _ rfl rfl rfl (row_new w3 _ _) ?_))
  have r9 := (row_new w3 (ev e00) 66).put (ev e)
  have r79 : RowAt b7 #[.int .i64 A, .int .i64 B] 60 ((w3.alloc (.cells (ev e00) 66)).setRow w3.heap.size (ev e)) := (RowAt.later r7 (bgo hb3 (below_one w3 (.cells (ev e00) 66)))).kp (Kp.row _ _) (by have := hb3.size; omega)
  have hb9 : Below w.heap.size w ((w3.alloc (.cells (ev e00) 66)).setRow w3.heap.size (ev e)) := below_row (bgo hb7 (bgo hb3 (below_one w3 _))) (Nat.le_trans hb7.size hb3.size) _
  change Code.wp _ _ _ _ ((w3.alloc (.cells (ev e00) 66)).setRow w3.heap.size (ev e))
  generalize (w3.alloc (.cells (ev e00) 66)).setRow w3.heap.size (ev e) = w5 at r9 r79 hb9 ⊢
  generalize w3.heap.size = b9 at r9 ⊢
  have c5 : ∀ s : Wld w5, (wOf s).cell? ⟨b7, 0, none⟩ = some (.int .i64 A) := fun s => r79.cls 0 _ rfl s
  clear r7 g7 c2 hb7 hb3 r79
  have hB := hb9
  go_upto_region 5 with fail
  refine wp_region_cls (by kernel_rfl) (by kernel_rfl) ?_
  repeat (first | go_big_quiet_skip | (go_big_quiet_want; first | (refine quiet_load_in _ _ rfl rfl r9.in.cls Tryz.underlying66 rfl (e_size _) ?_; simp only [Act.put, List.setIfInBounds_toArray, List.set_cons_succ, List.set_cons_zero]; go_big_quiet_on) | (go_big_quiet_op; first | go_big_quiet_on | go_big_quiet_call ((go_at_call 63; exact cls_of (isLive_is hlv _))))))
  refine wpQuiet_nil ?_
  rintro w1 ⟨s1, e1⟩
  have hb1 := wOf_below s1
  rw [← e1] at hb1
  clear e1 s1
  replace hB := bgo hB hb1
  clear hb1
  go_wp2
  go_ret3
  exact ⟨rfl, hB⟩

set_option maxHeartbeats 2000000 in
theorem viewOf_e {ad : Nat → Addr} {mb : Nat} {l : List El} {w : World} (h : MvAt mb l w) (L : Laid ad w) (hn : l.length ≤ 1000000) (i : Nat) (hil : i = l.length) :
    Calls Tryz.prog 46 #[pv mb, .int .i64 (i : Int)] w fun r w' => r = .returned (.tuple #[.int .i64 (liveL (l.take i)), .bool false, .nilIface]) ∧ Below w.heap.size w w' := by
  obtain ⟨tb, v, R, h1, h2⟩ := h
  have hi : i ≤ l.length := by omega
  have hlv : decide (e00.hd ≤ 0) = true := by decide
  have HB := hid_of' (before_any h2 i (by omega) hi)
  have HA : Hid (∀ x, Below w.heap.size w x → _) := fun x hx => at_end (h2.later hx) (L.below hx) i hil
  have c0 : ∀ x, Below w.heap.size w x → x.cell? ⟨mb, 0, none⟩ = some (.pointer (some ⟨tb, 0, none⟩)) := fun x hx => (h1.later hx).cell 0
  have c00 := c0 _ (Below.refl _ _)
  unfold pv wv at *
  clear h1 h2 hi
  try clear hil
  try clear he
  generalize liveL (l.take i) = A at HB ⊢
  generalize lineL (l.take i) = B at HB
  go_enter Tryz.func46, Tryz.ntmps46
  go_upto_region 2 with (first | (go_at_call 75; refine HB.out.mono ?_; rintro r w1 ⟨rfl, hb1⟩; clear HB) | (refine wpL_storeW rfl _ _ rfl rfl rfl (row_new w1 _ _) ?_))
  have r7 := (row_new w1 #[.int .i64 0, .int .i64 0] 60).put #[.int .i64 A, .int .i64 B]
  have hb7 : Below w.heap.size w ((w1.alloc (.cells #[.int .i64 0, .int .i64 0] 60)).setRow w1.heap.size #[.int .i64 A, .int .i64 B]) := below_row (bgo hb1 (below_one w1 _)) hb1.size _
  generalize (w1.alloc (.cells #[.int .i64 0, .int .i64 0] 60)).setRow w1.heap.size #[.int .i64 A, .int .i64 B] = w2 at r7 hb7 ⊢
  have c2 := c0 _ hb7
  have g7 := r7.lt
  clear c00 c0 hb1
  generalize w1.heap.size = b7 at r7 g7 ⊢
  go_upto_region 5 with (first | (go_at_call 60; refine (HA.out _ hb7).mono ?_; rintro r w3 ⟨gf, rfl, hb3⟩; clear HA) | (refine wpL_storeE rfl _ _ rfl rfl rfl (row_new w3 _ _) ?_))
  have r9 := (row_new w3 (ev e00) 66).put (ev e00)
  have r79 : RowAt b7 #[.int .i64 A, .int .i64 B] 60 ((w3.alloc (.cells (ev e00) 66)).setRow w3.heap.size (ev e00)) := (RowAt.later r7 (bgo hb3 (below_one w3 (.cells (ev e00) 66)))).kp (Kp.row _ _) (by have := hb3.size; omega)
  have hb9 : Below w.heap.size w ((w3.alloc (.cells (ev e00) 66)).setRow w3.heap.size (ev e00)) := below_row (bgo hb7 (bgo hb3 (below_one w3 _))) (Nat.le_trans hb7.size hb3.size) _
  change Code.wp _ _ _ _ ((w3.alloc (.cells (ev e00) 66)).setRow w3.heap.size (ev e00))
  generalize (w3.alloc (.cells (ev e00) 66)).setRow w3.heap.size (ev e00) = w5 at r9 r79 hb9 ⊢
  generalize w3.heap.size = b9 at r9 ⊢
  have c5 : ∀ s : Wld w5, (wOf s).cell? ⟨b7, 0, none⟩ = some (.int .i64 A) := fun s => r79.cls 0 _ rfl s
  clear r7 g7 c2 hb7 hb3 r79
  have hB := hb9
  go_upto_region 5 with fail
  refine wp_region_cls (by kernel_rfl) (by kernel_rfl) ?_
  repeat (first | go_big_quiet_skip | (go_big_quiet_want; first | (refine quiet_load_in _ _ rfl rfl r9.in.cls Tryz.underlying66 rfl (e_size _) ?_; simp only [Act.put, List.setIfInBounds_toArray, List.set_cons_succ, List.set_cons_zero]; go_big_quiet_on) | (go_big_quiet_op; first | go_big_quiet_on | go_big_quiet_call ((go_at_call 63; exact cls_of (isLive_is hlv _))))))
  refine wpQuiet_nil ?_
  rintro w1 ⟨s1, e1⟩
  have hb1 := wOf_below s1
  rw [← e1] at hb1
  clear e1 s1
  replace hB := bgo hB hb1
  clear hb1
  go_wp2
  go_ret3
  exact ⟨rfl, hB⟩
theorem viewOf_any {ad : Nat → Addr} {mb : Nat} {l : List El} {w : World} (h : MvAt mb l w) (L : Laid ad w) (hn : l.length ≤ 1000000) (i : Nat) (hi : i ≤ l.length) :
    Calls Tryz.prog 46 #[pv mb, .int .i64 (i : Int)] w fun r w' => r = .returned (.tuple #[.int .i64 (liveL (l.take i)), .bool (isA l i), .nilIface]) ∧ Below w.heap.size w w' := by
  unfold isA
  cases he : l[i]? with
  | none =>
    have := List.getElem?_eq_none_iff.1 he
    exact viewOf_e h L hn i (by omega)
  | some e =>
    simp only
    cases hb : decide (e.hd ≤ 0) with
    | true => exact viewOf_t h L hn i e he hb
    | false => exact viewOf_f h L hn i e he hb
end Go.Proofs.YtjopeojnlibagaaGreatDoor
namespace Go.Proofs.YtjopeojnlibagaaGreatDoor
open Go.RowKit Go.Extern.Stop Go.Stop Go.Extern
set_option maxRecDepth 100000

def wk5 : List El := [⟨0, 0, 1, 97, 1⟩, ⟨0, 0, 2, 98, 0⟩]
theorem wk5_good : ∀ (i : Nat) (e : El), wk5[i]? = some e → e.Good := by
  intro i e he
  match i, he with
  | 0, he => cases he; exact ⟨by unfold Idn.In In64 El.id; simp, by decide, by decide⟩
  | 1, he => cases he; exact ⟨by unfold Idn.In In64 El.id; simp, by decide, by decide⟩
  | i + 2, he => simp [wk5] at he
theorem wk5_apart : Apart wk5 := by
  intro i j x y hij hx hy
  match i, j, hij, hx, hy with
  | 0, 1, _, hx, hy => cases hx; cases hy; decide
  | 0, 0, h, _, _ => omega
  | 1, 1, h, _, _ => omega
  | i + 1, 0, h, _, _ => omega
  | _, j + 2, _, _, hy => simp [wk5] at hy
  | i + 2, 1, h, _, _ => omega
end Go.Proofs.YtjopeojnlibagaaGreatDoor
