
/-
  barrowlaw12.wakes.
-/
import Derived.Test.YtfgcljpiidhfpaaDoorFl9
namespace Go.Proofs.YtfgcljpiidhfpaaDoor
open Go.RowKit
set_option maxRecDepth 100000

def ck3 : List Int := [3, 0, 0, 0, 0, 0, 0, 0]
def ck2 : List Int := [2, 0, 0, 0, 0, 0, 0, 0]
/-- What is proposed, and what it comes to. -/
def wkA : List Rnd := rds0.set 0 ⟨1, ck3, z8, 0⟩
def wkB : List Rnd := rds0.set 0 ⟨1, ck3, [1, 0, 0, 0, 0, 0, 0, 0], 1⟩
theorem wkA_ok : OkL wkA := rds0_ok.set 0 ⟨rfl, rfl⟩
theorem wkB_ok : OkL wkB := rds0_ok.set 0 ⟨rfl, rfl⟩
theorem wk_set : setK 1 0 ck3 wkA 1 = wkB := by decide
theorem wk_ne : (!(wkA == wkB)) = true := by decide
theorem wk_done : (wkB.any fun r => doneR r) = true := by decide
theorem wk_froz : (wkB.any fun r => frozR 0 r) = false := by decide
theorem wk_0 : wkB[0]? = some ⟨1, ck3, [1, 0, 0, 0, 0, 0, 0, 0], 1⟩ := rfl
theorem wk_vote : voteR ck2 ck3 = 2 := by decide
theorem run_ixRnds {l : List Rnd} (ok : OkL l) {c : Nat} {r : Rnd} (h : l[c]? = some r) (w : World) : (Instr.index 46 (.agg (cv (rs l))) (.int .i64 (c : Int))).run Tryd.prog w = .ok (.agg (cv (rc r))) w := by
  have hc : c < 8 := by have := (List.getElem?_eq_some_iff.1 h).1; rw [ok.1] at this; exact this
  have hci : (c : Int) < 8 := by omega
  have p := part_rnd (x := rs l) (o := c * 18) (by rw [rs_len ok]; omega) w
  rw [sub_rs ok h] at p
  simp [Instr.index, run_underlying Tryd.underlying46, asIntOf, szRnd w, p]
  omega
theorem quiet_ix {o : Oper} {a : Act} {C : World → Prop} {K : Act → Prop} (x y : Operand) (ho : o.op = .index 46 x y) {l : List Rnd} (ok : OkL l) {c : Nat} {r : Rnd} (h : l[c]? = some r) (hx : a.eval x = .agg (cv (rs l))) (hy : a.eval y = .int .i64 (c : Int)) (k : K (a.put o.dst (.agg (cv (rc r))))) : o.quiet Tryd.prog a C K :=
  ⟨.agg (cv (rc r)), fun w _ => by
    unfold Oper.quietAt execOp
    simp only [ho, hx, hy, Sem.run_bind, run_ixRnds ok h w, Result.andThen_ok]
    exact ⟨rfl, rfl⟩, k⟩
theorem run_fldN (r : Rnd) (w : World) : (Instr.field 44 (.agg (cv (rc r))) 0).run Tryd.prog w = .ok (.int .i64 r.num) w := by kernel_rfl
theorem quiet_fldN {o : Oper} {a : Act} {C : World → Prop} {K : Act → Prop} (x : Operand) (ho : o.op = .field 44 x 0) {r : Rnd} (hx : a.eval x = .agg (cv (rc r))) (k : K (a.put o.dst (.int .i64 r.num))) : o.quiet Tryd.prog a C K :=
  ⟨.int .i64 r.num, fun w _ => by
    unfold Oper.quietAt execOp
    simp only [ho, hx, Sem.run_bind, run_fldN r w, Result.andThen_ok]
    exact ⟨rfl, rfl⟩, k⟩
set_option maxHeartbeats 4000000 in
theorem wakes12 (w : World) : Calls Tryd.prog 12 #[] w fun e w' => e = .returned (.bool true) ∧ Below w.heap.size w w' := by
  have HN := hid_of' (new_ok (n := 1) (s := 0) (by decide) (by decide) (by decide) (by decide) w)
  go_enter Tryd.func12, Tryd.ntmps12
  go_upto_region 2 with (go_at_call 9; refine HN.out.mono ?_; rintro e w1 ⟨d, rfl, hdl, hd, hb1⟩; clear HN)
  have HP := hid_of' (propose_ok (s := 0) (n := 1) (r := rnd0) (cut := ck3) hd (by decide) rfl rfl rfl (by decide))
  go_upto_region 4 with (first | (go_at_call 34; refine HP.out.mono ?_; rintro e w2 ⟨rfl, hd2, hc2⟩; clear HP; have HS := hid_of' (settle_any (N := 1) (s := 0) (l := wkA) (hv := ck3) hd2 (by decide) (by decide) rfl)) | (go_at_call 35; refine HS.out.mono ?_; rintro e w3 ⟨he3, hd3, hc3⟩; rw [show setK ((1 : Nat) : Int) 0 ck3 wkA 1 = wkB from wk_set] at he3 hd3; rw [wk_ne] at he3; obtain rfl := he3; clear HS))
  have hB : Below w.heap.size w w3 := Ch.none (((Ch.of (S := fun _ => False) hb1).go hc2 (fun z hz => .inr (by omega))).go hc3 (fun z hz => .inr (by omega))) (fun _ _ q => q)
  have hd4 : DkAt d 1 0 wkB w3 := hd3
  clear hd hd2 hd3 hc2 hc3 hb1
  have HD : ∀ X, DkAt d 1 0 wkB X → Hid (Calls Tryd.prog 36 #[.pointer (some ⟨d, 0, none⟩)] X fun e w' => e = .returned (.bool true) ∧ Below X.heap.size X w') := fun X hX => by have := done_any hX; rw [wk_done] at this; exact this
  have HF : ∀ X, DkAt d 1 0 wkB X → Hid (Calls Tryd.prog 26 #[.pointer (some ⟨d, 0, none⟩)] X fun e w' => e = .returned (.bool false) ∧ Below X.heap.size X w') := fun X hX => by have := frozen_any (s := 0) hX (by decide); rw [wk_froz] at this; exact this
  have HV : ∀ X, Hid (Calls Tryd.prog 17 #[.agg (cv ck2), .agg (cv ck3)] X fun e w' => e = .returned (.int .i64 2) ∧ Below X.heap.size X w') := fun X => by have := vote_any ck2 ck3 X rfl rfl; rw [wk_vote] at this; exact this
  have cn := rcv_num ⟨1, ck3, [1, 0, 0, 0, 0, 0, 0, 0], 1⟩
  refine wp_region_cls0 ?_
  repeat (first | go_big_quiet_skip | (go_big_quiet_want; first | (refine quiet_ix (c := 0) _ _ rfl wkB_ok wk_0 rfl rfl ?_; simp only [Act.put, List.setIfInBounds_toArray, List.set_cons_succ, List.set_cons_zero]; go_big_quiet_on) | (refine quiet_fldN _ rfl rfl ?_; simp only [Act.put, List.setIfInBounds_toArray, List.set_cons_succ, List.set_cons_zero]; go_big_quiet_on) | (go_big_quiet_op; first | go_big_quiet_on | go_big_quiet_call ((first | (go_at_call 36; exact cls_of (HD _ (hd4.later (wOf_below _))).out) | (go_at_call 26; exact cls_of (HF _ (hd4.later (wOf_below _))).out) | (go_at_call 25; exact cls_of (rounds_any (hd4.later (wOf_below _)))) | (go_at_call 17; exact cls_of (HV _).out))))))
  refine wpQuiet_nil ?_
  rintro w1 ⟨s1, e1⟩
  have hb1 := wOf_below s1
  rw [← e1] at hb1
  clear e1 s1
  replace hd4 := hd4.later hb1
  replace hB := bgo hB hb1
  clear hb1
  go_wp2
  go_ret
  exact ⟨rfl, hB⟩
end Go.Proofs.YtfgcljpiidhfpaaDoor
