
/-
  xform.Apply refused: what is not right, what is not valid, and an ID that is there.
-/
import Derived.Test.YtjalehlmldlooaaGreatDoorZap30
import Derived.Test.YtjalehlmldlooaaGreatDoorZap41
import Derived.Test.YtjalehlmldlooaaGreatDoorZap42
import Derived.Test.YtjalehlmldlooaaGreatDoorZap43
namespace Go.Proofs.YtjalehlmldlooaaGreatDoor
open Go.RowKit Go.Extern.Stop Go.Stop Go.Extern
set_option maxRecDepth 100000

def bInsert : ByteArray := ⟨#[73, 110, 115, 101, 114, 116]⟩
def bXform : ByteArray := ⟨#[120, 102, 111, 114, 109]⟩
def bApply : ByteArray := ⟨#[65, 112, 112, 108, 121]⟩
/-- A Fault around a Fault around a reason, in memory. -/
def Fault2 (ad : Nat → Addr) (b b2 : Nat) (la ca : ByteArray) (at_ : Int) (lb cb : ByteArray) (at2 : Int) (k : Nat) (w : World) : Prop := RowAt b #[.string la, .string ca, .int .i64 at_, .iface 97 (.pointer (some ⟨b2, 0, none⟩))] 108 w ∧ FaultAt ad b2 lb cb at2 k w
theorem FaultAt.later {ad : Nat → Addr} {b : Nat} {la ca : ByteArray} {at_ : Int} {k : Nat} {w w' : World} (h : FaultAt ad b la ca at_ k w) (hb : Below w.heap.size w w') : FaultAt ad b la ca at_ k w' := RowAt.later h hb
theorem Fault2.later {ad : Nat → Addr} {b b2 : Nat} {la ca lb cb : ByteArray} {at_ at2 : Int} {k : Nat} {w w' : World} (h : Fault2 ad b b2 la ca at_ lb cb at2 k w) (hb : Below w.heap.size w w') : Fault2 ad b b2 la ca at_ lb cb at2 k w' := ⟨h.1.later hb, h.2.later hb⟩
theorem newFF (la ca : ByteArray) (at_ : Int) (b2 : Nat) (w : World) :
    Calls Tryz.prog 41 #[.string la, .string ca, .int .i64 at_, .iface 97 (.pointer (some ⟨b2, 0, none⟩))] w fun e w' => e = .returned (.iface 97 (.pointer (some ⟨w.heap.size, 0, none⟩))) ∧ RowAt w.heap.size #[.string la, .string ca, .int .i64 (place at_), .iface 97 (.pointer (some ⟨b2, 0, none⟩))] 108 w' ∧ Below w.heap.size w w' := by
  have HP : Hid (max at_ (-1) = place at_) := by unfold Hid place; split <;> omega
  go_enter Tryz.func41, Tryz.ntmps41
  go_wp2
  go_ret
  refine ⟨rfl, ?_, below_one _ _⟩
  rw [← HP.out]
  exact heap_alloc_last w _
set_option maxHeartbeats 400000 in
theorem refusalX_rsn {ad : Nat → Addr} (o : Xo) (k : Nat) (w : World) : Calls Tryz.prog 26 #[.agg (ov o), .iface 197 (.pointer (some (ad k)))] w fun r w' => ∃ b, r = .returned (.iface 97 (.pointer (some ⟨b, 0, none⟩))) ∧ FaultAt ad b bXform bApply (place o.p) k w' ∧ Below w.heap.size w w' := by
  have HF := hid_of' (fun x => newT (ad := ad) bXform bApply o.p k x)
  unfold ov
  go_enter Tryz.func26, Tryz.ntmps26
  go_wp2_with (go_at_call 41; refine (HF.out _).mono ?_; rintro r w2 ⟨rfl, hf, hb2⟩)
  go_ret
  rw [World.size_alloc] at hf
  exact ⟨_, rfl, hf, bgo (below_one _ _) hb2⟩
set_option maxHeartbeats 400000 in
theorem refusalX_flt (o : Xo) (b2 : Nat) (w : World) : Calls Tryz.prog 26 #[.agg (ov o), .iface 97 (.pointer (some ⟨b2, 0, none⟩))] w fun r w' => ∃ b, r = .returned (.iface 97 (.pointer (some ⟨b, 0, none⟩))) ∧ RowAt b #[.string bXform, .string bApply, .int .i64 (place o.p), .iface 97 (.pointer (some ⟨b2, 0, none⟩))] 108 w' ∧ Below w.heap.size w w' := by
  have HF := hid_of' (fun x => newFF bXform bApply o.p b2 x)
  unfold ov
  go_enter Tryz.func26, Tryz.ntmps26
  go_wp2_with (go_at_call 41; refine (HF.out _).mono ?_; rintro r w2 ⟨rfl, hf, hb2⟩)
  go_ret
  rw [World.size_alloc] at hf
  exact ⟨_, rfl, hf, bgo (below_one _ _) hb2⟩
/-- Apply's refusal of one place. -/
def ApNo (ad : Nat → Addr) (op : Xo) (k : Nat) (w : World) (r : Ending) (w' : World) : Prop := ∃ b, r = .returned (.iface 97 (.pointer (some ⟨b, 0, none⟩))) ∧ FaultAt ad b bXform bApply (place op.p) k w' ∧ Below w.heap.size w w'
set_option maxHeartbeats 2000000 in
theorem apply_nil {ad : Nat → Addr} {w : World} (L : Laid ad w) (op : Xo) (ix : Idn) :
    Calls Tryz.prog 7 #[.pointer none, .agg (ov op), .agg (idc ix.a ix.b ix.c)] w (ApNo ad op 0 w) := by
  have r0 : RowAt w.heap.size (ov op) 40 ((w.alloc (.cells (ov op) 40)).alloc (.cells (idc ix.a ix.b ix.c) 32)) := (row_new w _ _).later (below_one _ _)
  have hB := below_two w (.cells (ov op) 40) (.cells (idc ix.a ix.b ix.c) 32)
  have HF := hid_of' (fun x => refusalX_rsn (ad := ad) op 0 x)
  go_enter Tryz.func7, Tryz.ntmps7
  go_upto_region 1 with fail
  generalize (w.alloc (.cells (ov op) 40)).alloc (.cells (idc ix.a ix.b ix.c) 32) = W at r0 hB ⊢
  have LV : W.cell? ⟨0, 0, none⟩ = some (.iface 197 (.pointer (some (ad 0)))) := (L.below hB).var 0 (by decide)
  clear L
  go_wp2_with (first | (refine wpL_loadO rfl _ rfl rfl r0.in ?_) | (go_at_call 26; refine (HF.out _).mono ?_; rintro r w2 ⟨b, rfl, hf, hb2⟩))
  go_ret
  exact ⟨b, rfl, hf, bgo hB hb2⟩
set_option maxHeartbeats 2000000 in
theorem apply_arg {ad : Nat → Addr} {mb : Nat} {w : World} (L : Laid ad w) (op : Xo) (ix : Idn) (hr : rightO op = false) :
    Calls Tryz.prog 7 #[pv mb, .agg (ov op), .agg (idc ix.a ix.b ix.c)] w (ApNo ad op 0 w) := by
  have r0 : RowAt w.heap.size (ov op) 40 ((w.alloc (.cells (ov op) 40)).alloc (.cells (idc ix.a ix.b ix.c) 32)) := (row_new w _ _).later (below_one _ _)
  have hB := below_two w (.cells (ov op) 40) (.cells (idc ix.a ix.b ix.c) 32)
  have HF := hid_of' (fun x => refusalX_rsn (ad := ad) op 0 x)
  have LH := hid_of' L
  clear L
  unfold pv
  go_enter Tryz.func7, Tryz.ntmps7
  go_upto_region 1 with fail
  generalize (w.alloc (.cells (ov op) 40)).alloc (.cells (idc ix.a ix.b ix.c) 32) = W at r0 hB ⊢
  refine wp_region_cls0 ?_
  repeat (first | go_big_quiet_skip | (go_big_quiet_want; first | (refine quiet_load_in _ _ rfl rfl r0.in.cls Tryz.underlying40 rfl (o_size op) ?_; simp only [Act.put, List.setIfInBounds_toArray, List.set_cons_succ, List.set_cons_zero]; go_big_quiet_on) | (go_big_quiet_op; first | go_big_quiet_on | go_big_quiet_call ((go_at_call 25; exact cls_of (rightX_is hr _))))))
  refine wpQuiet_nil ?_
  rintro w1 ⟨s1, e1⟩
  have hb1 := wOf_below s1
  rw [← e1] at hb1
  clear e1 s1
  replace r0 := r0.later hb1
  replace hB := bgo hB hb1
  clear hb1
  have LV : w1.cell? ⟨0, 0, none⟩ = some (.iface 197 (.pointer (some (ad 0)))) := (LH.out.below hB).var 0 (by decide)
  clear LH
  go_wp2_with (first | (refine wpL_loadO rfl _ rfl rfl r0.in ?_) | (go_at_call 26; refine (HF.out _).mono ?_; rintro r w2 ⟨b, rfl, hf, hb2⟩))
  go_ret
  exact ⟨b, rfl, hf, bgo hB hb2⟩
set_option maxHeartbeats 2000000 in
theorem apply_range {ad : Nat → Addr} {mb tb kb n : Nat} {R : Rows} {l : List El} {f : Idn → Option Int} {w : World} (L : Laid ad w) (h : MdAt mb tb kb n R l f w) (op : Xo) (ix : Idn) (hr : rightO op = true) (hv : validO op l.length = false) :
    Calls Tryz.prog 7 #[pv mb, .agg (ov op), .agg (idc ix.a ix.b ix.c)] w (ApNo ad op 1 w) := by
  have r0 : RowAt w.heap.size (ov op) 40 ((w.alloc (.cells (ov op) 40)).alloc (.cells (idc ix.a ix.b ix.c) 32)) := (row_new w _ _).later (below_one _ _)
  have hB := below_two w (.cells (ov op) 40) (.cells (idc ix.a ix.b ix.c) 32)
  have HF := hid_of' (fun x => refusalX_rsn (ad := ad) op 1 x)
  have LH := hid_of' L
  clear L
  unfold pv
  go_enter Tryz.func7, Tryz.ntmps7
  go_upto_region 1 with fail
  generalize (w.alloc (.cells (ov op) 40)).alloc (.cells (idc ix.a ix.b ix.c) 32) = W at r0 hB ⊢
  refine wp_region_cls0 ?_
  repeat (first | go_big_quiet_skip | (go_big_quiet_want; first | (refine quiet_load_in _ _ rfl rfl r0.in.cls Tryz.underlying40 rfl (o_size op) ?_; simp only [Act.put, List.setIfInBounds_toArray, List.set_cons_succ, List.set_cons_zero]; go_big_quiet_on) | (go_big_quiet_op; first | go_big_quiet_on | go_big_quiet_call ((go_at_call 25; exact cls_of (rightX_is hr _))))))
  refine wpQuiet_nil ?_
  rintro w1 ⟨s1, e1⟩
  have hb1 := wOf_below s1
  rw [← e1] at hb1
  clear e1 s1
  replace r0 := r0.later hb1
  replace hB := bgo hB hb1
  clear hb1
  have hW := h.later hB
  go_upto_region 3 with fail
  refine wp_region_cls (by kernel_rfl) (by kernel_rfl) ?_
  repeat (first | go_big_quiet_skip | (go_big_quiet_want; first | (refine quiet_load_in _ _ rfl rfl r0.in.cls Tryz.underlying40 rfl (o_size op) ?_; simp only [Act.put, List.setIfInBounds_toArray, List.set_cons_succ, List.set_cons_zero]; go_big_quiet_on) | (go_big_quiet_op; first | go_big_quiet_on | go_big_quiet_call ((first | (go_at_call 28; exact cls_of_same (lenM_ok (hW.later (wOf_below _)))) | (go_at_call 27; exact cls_of (validX_is hv _)))))))
  refine wpQuiet_nil ?_
  rintro w1 ⟨s1, e1⟩
  have hb1 := wOf_below s1
  rw [← e1] at hb1
  clear e1 s1
  replace r0 := r0.later hb1
  replace hW := hW.later hb1
  replace hB := bgo hB hb1
  clear hb1
  have LV : w1.cell? ⟨1, 0, none⟩ = some (.iface 197 (.pointer (some (ad 1)))) := (LH.out.below hB).var 1 (by decide)
  clear LH hW h
  go_wp2_with (first | (refine wpL_loadO rfl _ rfl rfl r0.in ?_) | (go_at_call 26; refine (HF.out _).mono ?_; rintro r w2 ⟨b, rfl, hf, hb2⟩))
  go_ret
  exact ⟨b, rfl, hf, bgo hB hb2⟩
set_option maxHeartbeats 2000000 in
theorem insert_twice {ad : Nat → Addr} {mb tb kb n : Nat} {R : Rows} {l : List El} {f : Idn → Option Int} {w : World} (L : Laid ad w) (h : MdAt mb tb kb n R l f w) (ip : Nat) (e : El) (hi : ip ≤ l.length) (hin : e.id.In) (kk : Nat) (hk : flK (f e.id).isSome e = some kk) :
    Calls Tryz.prog 51 #[pv mb, .int .i64 (ip : Int), .agg (ev e)] w fun r w' => ∃ b2, r = .returned (.iface 97 (.pointer (some ⟨b2, 0, none⟩))) ∧ FaultAt ad b2 bModel bInsert (ip : Int) kk w' ∧ Below w.heap.size w w' := by
  have hB0 := below_one w (.cells (ev e) 49)
  have hr0 := row_new w (ev e) 49
  have h0 := h.later hB0
  have HL := hid_of' (lenM_ok h0)
  have HF := hid_of' (flaw_bad (L.below hB0) h0.row h0.map hin kk hk)
  have HR := hid_of' (fun x => refusalM (ad := ad) bInsert (ip : Int) kk x)
  rw [place_nat] at HR
  have e1 : ¬ (ip : Int) < 0 := by omega
  have e2 : ¬ (l.length : Int) < (ip : Int) := by omega
  have e3 : ¬ l.length < ip := by omega
  clear hk L h h0
  unfold pv at HL HF ⊢
  go_enter Tryz.func51, Tryz.ntmps51
  go_wp2_with (first | (go_at_call 28; refine HL.out.mono ?_; clear HL; rintro r w1 ⟨rfl, hw⟩; obtain rfl := hw.symm) | (refine wpL_loadE rfl _ rfl rfl hr0.in ?_) | (go_at_call 16; refine HF.out.mono ?_; clear HF; rintro r w2 ⟨rfl, hb2⟩) | (go_at_call 17; refine (HR.out _).mono ?_; clear HR; rintro r w3 ⟨rfl, hf3, hb3⟩))
  go_ret
  exact ⟨_, rfl, hf3, bgo hB0 (bgo hb2 hb3)⟩
set_option maxHeartbeats 2000000 in
theorem do_twice {ad : Nat → Addr} {mb tb kb n : Nat} {R : Rows} {l : List El} {f : Idn → Option Int} {w : World} (L : Laid ad w) (h : MdAt mb tb kb n R l f w) (o : Xo) (i : Idn) (k1 : o.k = 1) (hv : validO o l.length = true) (hi : i.In) (hfr : (f i).isSome = true) :
    Calls Tryz.prog 29 #[pv mb, .agg (ov o), .agg (idc i.a i.b i.c)] w fun r w' => ∃ b2, r = .returned (.iface 97 (.pointer (some ⟨b2, 0, none⟩))) ∧ FaultAt ad b2 bModel bInsert o.p 8 w' ∧ Below w.heap.size w w' := by
  obtain ⟨k, p, c, r⟩ := o
  obtain ⟨p0, p1⟩ := validO_place hv
  have hr := validO_right hv
  simp only at p0 p1 k1
  subst k1
  obtain ⟨ip, rfl⟩ : ∃ ip : Nat, p = (ip : Int) := ⟨p.toNat, by omega⟩
  have r0 : RowAt w.heap.size (ov ⟨1, ip, c, r⟩) 40 ((w.alloc (.cells (ov ⟨1, ip, c, r⟩) 40)).alloc (.cells (idc i.a i.b i.c) 32)) := (row_new w _ _).later (below_one _ _)
  have r1 : RowAt (w.heap.size + 1) (idc i.a i.b i.c) 32 ((w.alloc (.cells (ov ⟨1, ip, c, r⟩) 40)).alloc (.cells (idc i.a i.b i.c) 32)) := row_new2 w _ _ _
  have hB := below_two w (.cells (ov ⟨1, ip, c, r⟩) 40) (.cells (idc i.a i.b i.c) 32)
  have hc : rightC c = true := by
    unfold rightO at hr
    simp at hr
    exact hr.2
  have hk8 : flK (f (El.id ⟨i.a, i.b, i.c, c, 0⟩)).isSome ⟨i.a, i.b, i.c, c, 0⟩ = some 8 := by
    unfold flK
    rw [show El.id ⟨i.a, i.b, i.c, c, 0⟩ = i from rfl, hfr, hc]
    rfl
  go_enter Tryz.func29, Tryz.ntmps29
  go_upto_region 1 with fail
  generalize (w.alloc (.cells (ov ⟨1, ip, c, r⟩) 40)).alloc (.cells (idc i.a i.b i.c) 32) = W at r0 r1 hB ⊢
  have c0 : W.cell? ⟨w.heap.size, 0, none⟩ = some (.int .i64 1) := r0.cell 0
  have c1 : W.cell? ⟨w.heap.size, 1, none⟩ = some (.int .i64 (ip : Int)) := r0.cell 1
  have c2 : W.cell? ⟨w.heap.size, 2, none⟩ = some (.int .i32 c) := r0.cell 2
  have HI := hid_of' (insert_twice (L.below hB) (h.later hB) ip ⟨i.a, i.b, i.c, c, 0⟩ (by omega) hi 8 hk8)
  unfold pv ev at HI
  unfold pv
  clear hfr hv hr hk8 L h
  go_wp2_with (first | (refine wpL_loadI rfl _ rfl rfl r1.in ?_; unfold idc) | (go_at_call 51; refine HI.out.mono ?_; rintro r w9 ⟨b2, rfl, hf9, hb9⟩))
  go_ret
  exact ⟨b2, rfl, hf9, bgo hB hb9⟩
set_option maxHeartbeats 4000000 in
theorem apply_twice {ad : Nat → Addr} {mb tb kb n : Nat} {R : Rows} {l : List El} {f : Idn → Option Int} {w : World} (L : Laid ad w) (h : MdAt mb tb kb n R l f w) (op : Xo) (ix : Idn) (k1 : op.k = 1) (hv : validO op l.length = true) (hi : ix.In) (hfr : (f ix).isSome = true) :
    Calls Tryz.prog 7 #[pv mb, .agg (ov op), .agg (idc ix.a ix.b ix.c)] w fun r w' => ∃ b b2, r = .returned (.iface 97 (.pointer (some ⟨b, 0, none⟩))) ∧ Fault2 ad b b2 bXform bApply op.p bModel bInsert op.p 8 w' ∧ Below w.heap.size w w' := by
  have hr := validO_right hv
  have HP : Hid (place op.p = op.p) := by
    have := (validO_place hv).1
    unfold Hid place
    rw [if_neg (by omega)]
  have r0 : RowAt w.heap.size (ov op) 40 ((w.alloc (.cells (ov op) 40)).alloc (.cells (idc ix.a ix.b ix.c) 32)) := (row_new w _ _).later (below_one _ _)
  have r1 : RowAt (w.heap.size + 1) (idc ix.a ix.b ix.c) 32 ((w.alloc (.cells (ov op) 40)).alloc (.cells (idc ix.a ix.b ix.c) 32)) := row_new2 w _ _ _
  have hB := below_two w (.cells (ov op) 40) (.cells (idc ix.a ix.b ix.c) 32)
  have LH := hid_of' L
  clear L
  unfold pv
  go_enter Tryz.func7, Tryz.ntmps7
  go_upto_region 1 with fail
  generalize (w.alloc (.cells (ov op) 40)).alloc (.cells (idc ix.a ix.b ix.c) 32) = W at r0 r1 hB ⊢
  refine wp_region_cls0 ?_
  repeat (first | go_big_quiet_skip | (go_big_quiet_want; first | (refine quiet_load_in _ _ rfl rfl r0.in.cls Tryz.underlying40 rfl (o_size op) ?_; simp only [Act.put, List.setIfInBounds_toArray, List.set_cons_succ, List.set_cons_zero]; go_big_quiet_on) | (go_big_quiet_op; first | go_big_quiet_on | go_big_quiet_call ((go_at_call 25; exact cls_of (rightX_is hr _))))))
  refine wpQuiet_nil ?_
  rintro w1 ⟨s1, e1⟩
  have hb1 := wOf_below s1
  rw [← e1] at hb1
  clear e1 s1
  replace r0 := r0.later hb1
  replace r1 := r1.later hb1
  replace hB := bgo hB hb1
  clear hb1
  have hW := h.later hB
  go_upto_region 3 with fail
  refine wp_region_cls (by kernel_rfl) (by kernel_rfl) ?_
  repeat (first | go_big_quiet_skip | (go_big_quiet_want; first | (refine quiet_load_in _ _ rfl rfl r0.in.cls Tryz.underlying40 rfl (o_size op) ?_; simp only [Act.put, List.setIfInBounds_toArray, List.set_cons_succ, List.set_cons_zero]; go_big_quiet_on) | (go_big_quiet_op; first | go_big_quiet_on | go_big_quiet_call ((first | (go_at_call 28; exact cls_of_same (lenM_ok (hW.later (wOf_below _)))) | (go_at_call 27; exact cls_of (validX_is hv _)))))))
  refine wpQuiet_nil ?_
  rintro w1 ⟨s1, e1⟩
  have hb1 := wOf_below s1
  rw [← e1] at hb1
  clear e1 s1
  replace r0 := r0.later hb1
  replace r1 := r1.later hb1
  replace hW := hW.later hb1
  replace hB := bgo hB hb1
  clear hb1
  go_upto_region 5 with fail
  have HD := hid_of' (fun (x : World) (hx : Below w1.heap.size w1 x) => do_twice (LH.out.below (bgo hB hx)) (hW.later hx) op ix k1 hv hi hfr)
  unfold pv at HD
  clear LH h hW
  refine wp_region_tail 6 (by kernel_rfl) (fun _ => none) (by kernel_rfl) (by kernel_rfl) (by decide) (fun ii u X => match ii with
    | 0 => u = .agg (ov op)
    | 1 => u = .pointer (some ⟨mb, 0, none⟩)
    | 2 => u = .agg (ov op)
    | 3 => u = .agg (idc ix.a ix.b ix.c)
    | 4 => ∃ b2, u = .iface 97 (.pointer (some ⟨b2, 0, none⟩)) ∧ FaultAt ad b2 bModel bInsert op.p 8 X
    | 5 => ∃ b b2, u = .iface 97 (.pointer (some ⟨b, 0, none⟩)) ∧ Fault2 ad b b2 bXform bApply op.p bModel bInsert op.p 8 X
    | _ => True) (fun _ => false) (fun _ _ _ _ h => by cases h) ?_ ?_ ?_
  · intro ii u X X' hR hb
    match ii, hR with
    | 0, h => exact h
    | 1, h => exact h
    | 2, h => exact h
    | 3, h => exact h
    | 4, h => exact by obtain ⟨b2, h1, h2⟩ := h; exact ⟨b2, h1, h2.later hb⟩
    | 5, h => exact by obtain ⟨b, b2, h1, h2⟩ := h; exact ⟨b, b2, h1, h2.later hb⟩
    | m + 6, h => exact h
  · intro ii o hi ho qq X vals hX hdep hoth
    have t0 : qq.tmps[0]? = some (.pointer (some ⟨mb, 0, none⟩)) := by rw [hoth 0 (by kernel_rfl)]; rfl
    have t4 : qq.tmps[4]? = some (.pointer (some ⟨w.heap.size, 0, none⟩)) := by rw [hoth 4 (by kernel_rfl)]; rfl
    have t5 : qq.tmps[5]? = some (.pointer (some ⟨w.heap.size + 1, 0, none⟩)) := by rw [hoth 5 (by kernel_rfl)]; rfl
    match ii, hi, ho with
    | 0, _, ho =>
      simp only [List.getElem?_cons_zero, Option.some.injEq] at ho
      subst ho
      exact opw_loadO _ rfl (by simp [Act.eval, t4]) (r0.later hX).in (came _ rfl (Below.refl _ _) rfl (fun h => absurd h (by decide)))
    | 1, _, ho =>
      simp only [List.getElem?_cons_succ, List.getElem?_cons_zero, Option.some.injEq] at ho
      subst ho
      unfold Oper.wp
      simp [execOp, go_sem, t0]
      exact came _ rfl (Below.refl _ _) rfl (fun h => absurd h (by decide))
    | 2, _, ho =>
      simp only [List.getElem?_cons_succ, List.getElem?_cons_zero, Option.some.injEq] at ho
      subst ho
      exact opw_loadO _ rfl (by simp [Act.eval, t4]) (r0.later hX).in (came _ rfl (Below.refl _ _) rfl (fun h => absurd h (by decide)))
    | 3, _, ho =>
      simp only [List.getElem?_cons_succ, List.getElem?_cons_zero, Option.some.injEq] at ho
      subst ho
      exact opw_loadI _ rfl (by simp [Act.eval, t5]) (r1.later hX).in (came _ rfl (Below.refl _ _) rfl (fun h => absurd h (by decide)))
    | 4, _, ho =>
      simp only [List.getElem?_cons_succ, List.getElem?_cons_zero, Option.some.injEq] at ho
      subst ho
      obtain ⟨u1, e1⟩ := hdep ⟨1, .data⟩ (by simp) rfl _ 28 rfl rfl
      rw [show vals 1 = .pointer (some ⟨mb, 0, none⟩) from e1] at u1
      obtain ⟨u2, e2⟩ := hdep ⟨2, .data⟩ (by simp) rfl _ 29 rfl rfl
      rw [show vals 2 = .agg (ov op) from e2] at u2
      obtain ⟨u3, e3⟩ := hdep ⟨3, .data⟩ (by simp) rfl _ 30 rfl rfl
      rw [show vals 3 = .agg (idc ix.a ix.b ix.c) from e3] at u3
      unfold Oper.wp
      simp [go_sem, u1, u2, u3]
      refine (HD.out X hX).mono ?_
      rintro r x1 ⟨b2, rfl, hf2, hb1⟩
      exact came _ rfl hb1 ⟨b2, rfl, hf2⟩ (fun h => absurd h (by decide))
    | 5, _, ho =>
      simp only [List.getElem?_cons_succ, List.getElem?_cons_zero, Option.some.injEq] at ho
      subst ho
      obtain ⟨u0, e0⟩ := hdep ⟨0, .data⟩ (by simp) rfl _ 27 rfl rfl
      rw [show vals 0 = .agg (ov op) from e0] at u0
      obtain ⟨u4, e4⟩ := hdep ⟨4, .data⟩ (by simp) rfl _ 31 rfl rfl
      obtain ⟨b2, e4a, e4b⟩ := e4
      rw [show vals (Edge.on ⟨4, .data⟩) = _ from e4a] at u4
      unfold Oper.wp
      simp [go_sem, u0, u4]
      refine (refusalX_flt op b2 X).mono ?_
      rintro r x1 ⟨b, rfl, hf1, hb1⟩
      exact came _ rfl hb1 ⟨b, rfl, b2, by rw [HP.out] at hf1; exact hf1, e4b.later hb1⟩ (fun h => absurd h (by decide))
    | m + 6, hi, _ => exact absurd hi (by omega)
  · intro vals X hX hR _
    obtain ⟨b, b2, e1, e2⟩ : ∃ b b2, vals 5 = .iface 97 (.pointer (some ⟨b, 0, none⟩)) ∧ Fault2 ad b b2 bXform bApply op.p bModel bInsert op.p 8 X := hR 5 (by decide)
    simp only [List.take, List.drop, putAll, e1]
    simp only [List.setIfInBounds_toArray, List.set_cons_succ, List.set_cons_zero]
    go_wp2
    go_ret
    exact ⟨b, b2, rfl, e2, bgo hB hX⟩
end Go.Proofs.YtjalehlmldlooaaGreatDoor
