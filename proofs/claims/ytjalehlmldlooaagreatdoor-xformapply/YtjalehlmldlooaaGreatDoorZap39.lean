
/-
  model.Of of a row in which something is wrong.
-/
import Derived.Test.YtjalehlmldlooaaGreatDoorZap20
import Derived.Test.YtjalehlmldlooaaGreatDoorZap38
namespace Go.Proofs.YtjalehlmldlooaaGreatDoor
open Go.RowKit Go.Extern.Stop Go.Stop Go.Extern
set_option maxRecDepth 100000

def bModel : ByteArray := ⟨#[109, 111, 100, 101, 108]⟩
def bOf : ByteArray := ⟨#[79, 102]⟩
theorem place_nat (k : Nat) : place (k : Int) = (k : Int) := by unfold place; rw [if_neg (by omega)]
/-- Why an element can't be laid in. -/
def flK (there : Bool) (e : El) : Option Nat := if rightC e.ch = false then some 2 else if fairH e.hd = false then some 0 else if there = true then some 8 else none
def hasI (l : List El) (i : Idn) : Bool := l.any fun x => decide (x.id = i)
def wrK (l : List El) (e : El) : Option Nat := flK (hasI l e.id) e
theorem rkF_has {l : List El} {N : Int} {k : Nat} {i : Idn} (hk : k ≤ l.length) : (rkF l N k i).isSome = hasI (l.take k) i := by
  induction k with
  | zero => rfl
  | succ k ih =>
    obtain ⟨e, he⟩ : ∃ e, l[k]? = some e := ⟨_, List.getElem?_eq_getElem (by omega)⟩
    have e2 : l.take (k + 1) = l.take k ++ [e] := by rw [List.take_add_one, he]; rfl
    rw [← rkF_next he, e2]
    unfold putF hasI
    rw [List.any_append]
    by_cases q : i = e.id
    · rw [if_pos q]
      simp [q]
    · rw [if_neg q, ih (by omega)]
      have : decide (e.id = i) = false := by simp; exact fun h => q h.symm
      simp [this, hasI]
theorem refusalM {ad : Nat → Addr} (ca : ByteArray) (at_ : Int) (k : Nat) (w : World) :
    Calls Tryz.prog 17 #[.string ca, .int .i64 at_, .iface 197 (.pointer (some (ad k)))] w fun e w' => e = .returned (.iface 97 (.pointer (some ⟨w.heap.size, 0, none⟩))) ∧ FaultAt ad w.heap.size bModel ca (place at_) k w' ∧ Below w.heap.size w w' := by
  have HF := hid_of' (newT (ad := ad) bModel ca at_ k w)
  go_enter Tryz.func17, Tryz.ntmps17
  go_wp2_with (go_at_call 41; refine HF.out.mono ?_; rintro r w1 ⟨rfl, hf, hb1⟩)
  go_ret
  exact ⟨rfl, hf, hb1⟩
set_option maxHeartbeats 2000000 in
theorem flaw_bad {ad : Nat → Addr} {mb tb kb n : Nat} {f : Idn → Option Int} {e : El} {w : World} (L : Laid ad w) (h1 : RowAt mb #[pv tb, .map (some kb)] 59 w) (hM : MpAt kb n f w) (hi : e.id.In) (kk : Nat) (hk : flK (f e.id).isSome e = some kk) :
    Calls Tryz.prog 16 #[pv mb, .agg (ev e)] w fun r w' => r = .returned (.iface 197 (.pointer (some (ad kk)))) ∧ Below w.heap.size w w' := by
  have hE : CsIn w.heap.size 0 (idc e.ep e.rp e.no) (w.alloc (.cells (ev e) 49)) := id_at (row_new w _ _).in
  have hM1 := hM.later (below_one w (.cells (ev e) 49))
  have L1 := L.below (below_one w (.cells (ev e) 49))
  have hB := below_one w (.cells (ev e) 49)
  have hr1 := row_new w (ev e) 49
  have HV := hid_of' (validRune_any e.ch)
  have HR := hid_of' (rightHides_any e.hd)
  have hMr := h1.later (below_one w (.cells (ev e) 49))
  clear h1 hM L
  go_enter Tryz.func16, Tryz.ntmps16
  go_upto_region 1 with fail
  generalize hw0 : w.alloc (.cells (ev e) 49) = w0 at *
  clear hw0
  replace hB := hid_of' hB
  generalize w.heap.size = g at hE hr1 ⊢
  replace hB := hB.out
  have c1 : ∀ s : Wld w0, (wOf s).cell? ⟨mb, 1, none⟩ = some (.map (some kb)) := fun s => hMr.cls 1 _ rfl s
  unfold pv
  have hB0 := hB
  have LH := hid_of' L1
  clear L1 hB
  have hB : Below w0.heap.size w0 w0 := Below.refl _ _
  refine wp_region_cls (by kernel_rfl) (by kernel_rfl) ?_
  repeat (first | go_big_quiet_skip | (go_big_quiet_want; first | (refine quiet_load_in _ _ rfl rfl hE.cls Tryz.underlying32 rfl (id_size _ _ _) ?_; simp only [Act.put, List.setIfInBounds_toArray, List.set_cons_succ, List.set_cons_zero]; go_big_quiet_on) | (refine quiet_lookup _ _ rfl hi rfl rfl hM1.cls ?_; simp only [Act.put, List.setIfInBounds_toArray, List.set_cons_succ, List.set_cons_zero]; go_big_quiet_on) | (go_big_quiet_op; first | go_big_quiet_on | go_big_quiet_call ((fail)))))
  refine wpQuiet_nil ?_
  rintro w1 ⟨s1, e1⟩
  have hb1 := wOf_below s1
  rw [← e1] at hb1
  clear e1 s1
  replace hr1 := hr1.later hb1
  replace hB := bgo hB hb1
  clear hb1
  have d3 : w1.cell? ⟨g, 3, none⟩ = some (.int .i32 e.ch) := hr1.cell 3
  have d4 : w1.cell? ⟨g, 4, none⟩ = some (.int .i64 e.hd) := hr1.cell 4
  have L1 := LH.out.below hB
  have l0 : w1.cell? ⟨0, 0, none⟩ = some (.iface 197 (.pointer (some (ad 0)))) := L1.var 0 (by decide)
  have l2 : w1.cell? ⟨2, 0, none⟩ = some (.iface 197 (.pointer (some (ad 2)))) := L1.var 2 (by decide)
  have l8 : w1.cell? ⟨3, 0, none⟩ = some (.iface 197 (.pointer (some (ad 8)))) := L1.var 8 (by decide)
  have hBx := bgo hB0 hB
  clear L1 LH hM1 hMr hE c1 hB hB0
  unfold flK at hk
  cases hc : rightC e.ch with
  | false =>
    rw [if_pos hc] at hk
    cases hk
    rw [hc] at HV
    clear HR
    go_wp2_with (go_at_call 39; refine (HV.out _).mono ?_; rintro r w2 ⟨rfl, hw⟩; obtain rfl := hw.symm)
    go_ret
    exact ⟨rfl, hBx⟩
  | true =>
    rw [if_neg (by rw [hc]; decide)] at hk
    rw [hc] at HV
    cases hh : fairH e.hd with
    | false =>
      rw [if_pos hh] at hk
      cases hk
      rw [hh] at HR
      go_wp2_with (first | (go_at_call 39; refine (HV.out _).mono ?_; rintro r w2 ⟨rfl, hw⟩; obtain rfl := hw.symm) | (go_at_call 40; refine (HR.out _).mono ?_; rintro r w2 ⟨rfl, hw⟩; obtain rfl := hw.symm))
      go_ret
      exact ⟨rfl, hBx⟩
    | true =>
      rw [if_neg (by rw [hh]; decide)] at hk
      rw [hh] at HR
      cases hf : (f e.id).isSome with
      | false => rw [hf] at hk; simp at hk
      | true =>
        rw [hf] at hk
        simp at hk
        subst hk
        go_wp2_with (first | (go_at_call 39; refine (HV.out _).mono ?_; rintro r w2 ⟨rfl, hw⟩; obtain rfl := hw.symm) | (go_at_call 40; refine (HR.out _).mono ?_; rintro r w2 ⟨rfl, hw⟩; obtain rfl := hw.symm))
        go_ret
        exact ⟨rfl, hBx⟩

set_option maxHeartbeats 1000000 in
theorem of_bad {ad : Nat → Addr} {w : World} {u : Value} {l : List El} (L : Laid ad w) (hu : SlE w u l) (hn : l.length ≤ 1000000) (j : Nat) (ej : El) (hej : l[j]? = some ej) (hg : ∀ (i : Nat) (e : El), i < j → l[i]? = some e → e.Good) (hd : ∀ (i m : Nat) (x y : El), i < m → m < j → l[i]? = some x → l[m]? = some y → x.id ≠ y.id) (hin : ej.id.In) (kk : Nat) (hkk : wrK (l.take j) ej = some kk) :
    Calls Tryz.prog 5 #[u] w fun r w' => ∃ b, r = .returned (.tuple #[.pointer none, .iface 97 (.pointer (some ⟨b, 0, none⟩))]) ∧ FaultAt ad b bModel bOf (j : Int) kk w' ∧ Below w.heap.size w w' := by
  have hjl : j < l.length := (List.getElem?_eq_some_iff.1 hej).1
  obtain ⟨a', c', rfl⟩ := hu.form
  have HR := hid_of' (roomy_any l.length w)
  have HG : Hid (∀ g o_ c, (Value.slice a' l.length c') = .slice (some ⟨g, o_, none⟩) l.length c → l ≠ [] → g < w.heap.size) := by
    intro g o_ c hv h0
    rcases hu with h | ⟨g2, o2, c2, hv2, hc⟩
    · exact absurd h.1 h0
    · rw [hv] at hv2
      cases hv2
      exact hc.lt h0
  go_enter Tryz.func5, Tryz.ntmps5
  unfold pv at HR
  go_wp2_with (go_at_call 15; refine HR.out.mono ?_; rintro r w1 ⟨mb, tb, kb, rfl, q1, q2, q3, hm1, ht1, hM1, hb1⟩)
  clear HR
  have hu1 := hu.later hb1
  go_loopw [13] (fun i wr => ∃ k : Nat, i = .int .i64 (k : Int) ∧ k ≤ j ∧ RowAt mb #[pv tb, .map (some kb)] 59 wr ∧ RowAt tb #[.int .i64 32, .pointer none] 89 wr ∧ MpAt kb k (rkF l l.length k) wr ∧ SlE wr (.slice a' l.length c') l ∧ Below w.heap.size w wr) (fun i _ => l.length - (intOf i).toNat)
  case atStart => exact ⟨0, rfl, Nat.zero_le _, hm1, ht1, hM1, hu1, hb1⟩
  case round =>
    obtain ⟨k, rfl, hk, hm, ht, hM, hs, hB⟩ := hrel
    clear hm1 ht1 hM1 hu1 hb1
    by_cases hlt : k < j
    · have hki : (k : Int) < (l.length : Int) := by omega
      obtain ⟨e, he⟩ : ∃ e, l[k]? = some e := ⟨_, List.getElem?_eq_getElem (by omega)⟩
      obtain ⟨gi, gc, gh⟩ := hg k e hlt he
      have hfn : (rkF l l.length k e.id).isSome = false := by rw [rkF_none (fun i x hi hx => hd i k x e hi hlt hx he)]; rfl
      rcases hs with ⟨h0, _⟩ | ⟨g, o_, c, hv, hc⟩
      · exfalso; subst h0; simp at hjl
      simp only [Value.slice.injEq] at hv
      obtain ⟨rfl, _, rfl⟩ := hv
      have hce := hc k e he
      go_upto_region 5 with (first | (refine wpL_loadE rfl _ rfl rfl hce ?_) | (refine wpL_storeE rfl _ _ rfl rfl rfl (row_new wr _ _) ?_))
      have hr5 := (row_new wr #[.int .i64 0, .int .i64 0, .int .i64 0, .int .i32 0, .int .i64 0] 49).put (ev e)
      have hB5 : Below wr.heap.size wr ((wr.alloc (.cells #[.int .i64 0, .int .i64 0, .int .i64 0, .int .i32 0, .int .i64 0] 49)).setRow wr.heap.size (ev e)) := below_row (below_one wr _) (Nat.le_refl _) _
      generalize (wr.alloc (.cells #[.int .i64 0, .int .i64 0, .int .i64 0, .int .i32 0, .int .i64 0] 49)).setRow wr.heap.size (ev e) = W5 at hr5 hB5 ⊢
      have HF := hid_of' (flaw_ok (hm.later hB5) (hM.later hB5) gi gc gh hfn)
      have HI := hid_of' gi
      have HM := hid_of' hM
      have HS := hid_of' (show SlE wr (.slice (some ⟨g, o_, none⟩) l.length c') l from .inr ⟨g, o_, c', rfl, hc⟩)
      clear hM hfn gi gc gh hce hc
      unfold pv at HF
      go_upto_region 8 with (first | (refine wpL_loadE rfl _ rfl rfl hr5.in ?_) | (go_at_call 16; refine HF.out.mono ?_; rintro r W8 ⟨rfl, hb8⟩; clear HF))
      have hB8 := bgo hB5 hb8
      have hm8 := hm.later hB8
      have hI8 : CsIn wr.heap.size 0 (idc e.id.a e.id.b e.id.c) W8 := id_at (hr5.later hb8).in
      clear hr5 hb8 hB5
      refine wp_region_tail 10 (by kernel_rfl) (fun _ => none) (by kernel_rfl) (by kernel_rfl) (by decide) (fun i v x => match i with
        | 0 => v = .pointer (some ⟨mb, 0, none⟩)
        | 1 => v = .pointer (some ⟨mb, 0, none⟩)
        | 2 => v = .pointer (some ⟨mb, 1, none⟩)
        | 3 => v = .map (some kb)
        | 4 => v = .pointer (some ⟨wr.heap.size, 0, none⟩)
        | 5 => v = .agg (idc e.id.a e.id.b e.id.c)
        | 6 => v = .int .i64 (k : Int)
        | 7 => v = .slice (some ⟨g, o_, none⟩) l.length c'
        | 8 => v = .int .i64 (l.length : Int)
        | 9 => v = .int .i64 (rankN k l.length)
        | _ => True) (fun _ => false) (fun _ _ _ _ h => by cases h) ?_ ?_ ?_
      · intro i v x x' hR hb
        match i, hR with
        | 0, h => exact h
        | 1, h => exact h
        | 2, h => exact h
        | 3, h => exact h
        | 4, h => exact h
        | 5, h => exact h
        | 6, h => exact h
        | 7, h => exact h
        | 8, h => exact h
        | 9, h => exact h
        | m + 10, h => exact h
      · intro i o hi ho q x vals hX hdep hoth
        have t0 : q.tmps[0]? = some (.slice (some ⟨g, o_, none⟩) l.length c') := by rw [hoth 0 (by kernel_rfl)]; rfl
        have t4 : q.tmps[4]? = some (.pointer (some ⟨mb, 0, none⟩)) := by rw [hoth 4 (by kernel_rfl)]; rfl
        have t5 : q.tmps[5]? = some (.int .i64 (k : Int)) := by rw [hoth 5 (by kernel_rfl)]; rfl
        have t6 : q.tmps[6]? = some (.pointer (some ⟨wr.heap.size, 0, none⟩)) := by rw [hoth 6 (by kernel_rfl)]; rfl
        match i, hi, ho with
        | 0, _, ho =>
          simp only [List.getElem?_cons_zero, Option.some.injEq] at ho
          subst ho
          unfold Oper.wp
          simp [execOp, go_sem, t4]
          exact came _ rfl (Below.refl _ _) rfl (fun h => absurd h (by decide))
        | 1, _, ho =>
          simp only [List.getElem?_cons_succ, List.getElem?_cons_zero, Option.some.injEq] at ho
          subst ho
          obtain ⟨u0, e0⟩ := hdep ⟨0, .data⟩ (by simp) rfl _ 26 rfl rfl
          rw [show vals 0 = .pointer (some ⟨mb, 0, none⟩) from e0] at u0
          unfold Oper.wp
          simp [execOp, go_sem, u0]
          exact came _ rfl (Below.refl _ _) rfl (fun h => absurd h (by decide))
        | 2, _, ho =>
          simp only [List.getElem?_cons_succ, List.getElem?_cons_zero, Option.some.injEq] at ho
          subst ho
          obtain ⟨u1, e1⟩ := hdep ⟨1, .data⟩ (by simp) rfl _ 27 rfl rfl
          rw [show vals 1 = .pointer (some ⟨mb, 0, none⟩) from e1] at u1
          unfold Oper.wp
          simp [execOp, go_sem, u1]
          exact came _ rfl (Below.refl _ _) rfl (fun h => absurd h (by decide))
        | 3, _, ho =>
          simp only [List.getElem?_cons_succ, List.getElem?_cons_zero, Option.some.injEq] at ho
          subst ho
          obtain ⟨u2, e2⟩ := hdep ⟨2, .data⟩ (by simp) rfl _ 28 rfl rfl
          rw [show vals 2 = .pointer (some ⟨mb, 1, none⟩) from e2] at u2
          have cc : x.cell? ⟨mb, 1, none⟩ = some (.map (some kb)) := (hm8.later hX).cell 1
          unfold Oper.wp
          simp [execOp, go_sem, u2, cc]
          exact came _ rfl (Below.refl _ _) rfl (fun h => absurd h (by decide))
        | 4, _, ho =>
          simp only [List.getElem?_cons_succ, List.getElem?_cons_zero, Option.some.injEq] at ho
          subst ho
          unfold Oper.wp
          simp [execOp, go_sem, t6]
          exact came _ rfl (Below.refl _ _) rfl (fun h => absurd h (by decide))
        | 5, _, ho =>
          simp only [List.getElem?_cons_succ, List.getElem?_cons_zero, Option.some.injEq] at ho
          subst ho
          obtain ⟨u4, e4⟩ := hdep ⟨4, .data⟩ (by simp) rfl _ 30 rfl rfl
          rw [show vals 4 = .pointer (some ⟨wr.heap.size, 0, none⟩) from e4] at u4
          exact opw_loadI _ rfl (by simp [Act.eval, u4]) (hI8.later hX) (came _ rfl (Below.refl _ _) rfl (fun h => absurd h (by decide)))
        | 6, _, ho =>
          simp only [List.getElem?_cons_succ, List.getElem?_cons_zero, Option.some.injEq] at ho
          subst ho
          unfold Oper.wp
          simp [execOp, go_sem, t5]
          exact came _ rfl (Below.refl _ _) rfl (fun h => absurd h (by decide))
        | 7, _, ho =>
          simp only [List.getElem?_cons_succ, List.getElem?_cons_zero, Option.some.injEq] at ho
          subst ho
          unfold Oper.wp
          simp [execOp, go_sem, t0]
          exact came _ rfl (Below.refl _ _) rfl (fun h => absurd h (by decide))
        | 8, _, ho =>
          simp only [List.getElem?_cons_succ, List.getElem?_cons_zero, Option.some.injEq] at ho
          subst ho
          obtain ⟨u7, e7⟩ := hdep ⟨7, .data⟩ (by simp) rfl _ 33 rfl rfl
          rw [show vals 7 = .slice (some ⟨g, o_, none⟩) l.length c' from e7] at u7
          unfold Oper.wp
          simp [go_sem, u7]
          exact came _ rfl (Below.refl _ _) rfl (fun h => absurd h (by decide))
        | 9, _, ho =>
          simp only [List.getElem?_cons_succ, List.getElem?_cons_zero, Option.some.injEq] at ho
          subst ho
          obtain ⟨u6, e6⟩ := hdep ⟨6, .data⟩ (by simp) rfl _ 32 rfl rfl
          rw [show vals 6 = .int .i64 (k : Int) from e6] at u6
          obtain ⟨u8, e8⟩ := hdep ⟨8, .data⟩ (by simp) rfl _ 34 rfl rfl
          rw [show vals 8 = .int .i64 (l.length : Int) from e8] at u8
          unfold Oper.wp
          simp [go_sem, u6, u8]
          refine (evenRank_0 (k : Int) (l.length : Int) x (by omega) (by omega)).mono ?_
          rintro r x1 ⟨rfl, hw1⟩; have hb1 : Below x.heap.size x x1 := by rw [hw1]; exact Below.refl _ _
          exact came _ rfl hb1 rfl (fun h => absurd h (by decide))
        | m + 10, hi, _ => exact absurd hi (by omega)
      · intro vals x' hX hR _
        have r3 : vals 3 = .map (some kb) := hR 3 (by decide)
        have r5 : vals 5 = .agg (idc e.id.a e.id.b e.id.c) := hR 5 (by decide)
        have r9 : vals 9 = .int .i64 (rankN k l.length) := hR 9 (by decide)
        have hb9 := bgo hB8 hX
        have hM9 := HM.out.later hb9
        have hrb := rankN_b (k := (k : Int)) (n := (l.length : Int)) (by omega) hki
        simp only [List.take, List.drop, putAll, r3, r5, r9]
        have HZ : Hid (In64 (rankN k l.length) ∧ k < 1099511627776) := ⟨⟨by omega, by omega⟩, by omega⟩
        clear hrb
        simp only [List.setIfInBounds_toArray, List.set_cons_succ, List.set_cons_zero]
        refine wpL_mapPut rfl _ _ _ rfl hM9 HI.out rfl rfl rfl HZ.out.1 HZ.out.2 ?_
        intro w9 hM' hgr
        simp only [Act.put]
        go_wp2
        have hkp := Kp.of_grown hgr
        have hlk := hM9.lt
        clear hM9 r3 r5 r9 hR
        go_roundw
        case rel =>
          refine ⟨k + 1, by go_num, by omega, (hm.later hb9).kp hkp (by omega), (ht.later hb9).kp hkp (by omega), ?_, (HS.out.later hb9).kp hkp ?_, hkp.new (bgo hB hb9) (by omega)⟩
          · rw [← rkF_next he]; exact hM'
          · intro g2 o2 c2 e2 hl2
            have e3 := HG.out g2 o2 c2 e2 hl2
            omega
        case measure => simp [intOf]; omega
    · obtain rfl : k = j := by omega
      have hki : (k : Int) < (l.length : Int) := by omega
      rcases hs with ⟨h0, _⟩ | ⟨g, o_, c, hv, hc⟩
      · exfalso; subst h0; simp at hjl
      simp only [Value.slice.injEq] at hv
      obtain ⟨rfl, _, rfl⟩ := hv
      have hce := hc k ej hej
      go_upto_region 5 with (first | (refine wpL_loadE rfl _ rfl rfl hce ?_) | (refine wpL_storeE rfl _ _ rfl rfl rfl (row_new wr _ _) ?_))
      have hr5 := (row_new wr #[.int .i64 0, .int .i64 0, .int .i64 0, .int .i32 0, .int .i64 0] 49).put (ev ej)
      have hB5 : Below wr.heap.size wr ((wr.alloc (.cells #[.int .i64 0, .int .i64 0, .int .i64 0, .int .i32 0, .int .i64 0] 49)).setRow wr.heap.size (ev ej)) := below_row (below_one wr _) (Nat.le_refl _) _
      generalize (wr.alloc (.cells #[.int .i64 0, .int .i64 0, .int .i64 0, .int .i32 0, .int .i64 0] 49)).setRow wr.heap.size (ev ej) = W5 at hr5 hB5 ⊢
      have L5 := L.below (bgo hB hB5)
      have HF := hid_of' (flaw_bad L5 (hm.later hB5) (hM.later hB5) hin kk (by rw [rkF_has (by omega)]; exact hkk))
      have HN := hid_of' (fun x => refusalM (ad := ad) bOf (k : Int) kk x)
      clear hM hce hc hkk hm ht L5 L hin hd hg
      unfold pv at HF
      go_wp2_with (first | (refine wpL_loadE rfl _ rfl rfl hr5.in ?_) | (go_at_call 16; refine HF.out.mono ?_; rintro r W8 ⟨rfl, hb8⟩; clear HF) | (go_at_call 17; refine (HN.out _).mono ?_; rintro r W9 ⟨rfl, hf9, hb9⟩; clear HN))
      go_ret2
      exact ⟨_, rfl, by rwa [place_nat] at hf9, bgo (bgo (bgo hB hB5) hb8) hb9⟩
end Go.Proofs.YtjalehlmldlooaaGreatDoor
