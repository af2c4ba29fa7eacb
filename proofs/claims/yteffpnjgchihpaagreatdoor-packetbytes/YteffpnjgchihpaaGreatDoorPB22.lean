
/-
  The document's bytes of acts.
-/
import Derived.Test.YteffpnjgchihpaaGreatDoorPB21
namespace Go.Proofs.YteffpnjgchihpaaGreatDoor
open Go.RowKit
set_option maxRecDepth 100000

set_option maxHeartbeats 8000000 in
theorem refActs_any (l : List Pac) (v : Value) (n : Nat) (w : World) (hn : l.length = n) (hn6 : n ≤ 60) (hA : SlA w v l) (hok : ∀ a ∈ l, okAct a) :
    Calls Tryz.prog 17 #[v] w fun e w' => ∃ v, e = .returned v ∧ OwnB w.heap.size v (fActs l) w' ∧ Below w.heap.size w w' := by
  obtain ⟨a, c, rfl⟩ : ∃ a c, v = .slice a n c := by
    rcases hA with ⟨rfl, a, c, rfl⟩ | ⟨g, o, c, rfl, _⟩
    · exact ⟨a, c, by rw [← hn]; rfl⟩
    · exact ⟨_, c, by rw [hn]⟩
  have HA := hid_of' (And.intro hA (And.intro hok hn))
  clear hA hok hn
  go_enter Tryz.func17, Tryz.ntmps17
  go_upto_region 2 with (go_at_call 15; have hh := fun w => refForm_any n (by omega) w; (with_reducible refine (hh _).mono ?_); clear hh; rintro e w2 ⟨v2, rfl, o2, hb2⟩; obtain ⟨xa, xn, xc, rfl⟩ := ownB_form o2)
  go_upto_region 3 with fail
  go_loopw [3, 4] (fun ov jv wr => ∃ (k : Nat) (va0 : Option Addr) (vn0 vc0 : Nat), jv = .int .i64 (k : Int) ∧ ov = .slice va0 vn0 vc0 ∧ k ≤ n ∧ WrQ w (formN n ++ ((l.take k).map fAct).flatten) (.slice va0 vn0 vc0) wr) (fun _ jv _ => n - (intOf jv).toNat)
  case atStart => exact ⟨0, _, _, _, rfl, rfl, by omega, ⟨by simpa using o2, hb2⟩⟩
  case round =>
    clear o2 hb2
    obtain ⟨k, va0, vn0, vc0, rfl, rfl, hk, A⟩ := hrel
    by_cases hkn : k < n
    · have hki : (k : Int) < (n : Int) := by omega
      obtain ⟨x, hx⟩ : ∃ x, l[k]? = some x := ⟨_, List.getElem?_eq_getElem (by rw [HA.out.2.2]; exact hkn)⟩
      have hox := HA.out.2.1 x (List.mem_of_getElem? hx)
      obtain ⟨g, o, hag, hcx⟩ : ∃ g o, a = some ⟨g, o, none⟩ ∧ CsIn g (o + k * 13) (acv x) w := by
        rcases HA.out.1 with ⟨rfl, _⟩ | ⟨g, o, c', e, hc⟩
        · simp at hx
        · cases e
          exact ⟨g, o, rfl, hc.2 k x hx⟩
      subst hag
      obtain ⟨⟨kd, rp, at_, ch⟩, nm, ck⟩ := x
      obtain ⟨⟨hkd, hrp, hat, hch⟩, hnm, hck⟩ := hox
      dsimp only at hkd hrp hat hch hnm hck
      have hl8 := hck.1
      obtain ⟨pre, hpre⟩ : ∃ pre, pre = formN n ++ ((l.take k).map fAct).flatten := ⟨_, rfl⟩
      have hplen : pre.length ≤ 9 + 128 * k := by
        have e1 := form_len9 n (by omega)
        have e2 := fActs_le (l := l.take k) (fun a ha => HA.out.2.1 a (List.mem_of_mem_take ha))
        have e3 : (l.take k).length ≤ k := by rw [List.length_take]; omega
        rw [hpre, List.length_append]
        omega
      rw [← hpre] at A
      have HX := hid_of' (And.intro hx hpre)
      have hcx' := hcx.later A.k
      have hc0 := hcx'.sub (ds := opv (kd, rp, at_, ch)) 0 (acv_op ((kd, rp, at_, ch), nm, ck))
      rw [Nat.add_zero] at hc0
      have HG := hid_of' hcx
      have HA0 := hid_of' A
      clear hx hpre A hcx hcx'
      go_upto_region 6 with (first | (refine ld_op rfl _ rfl rfl hc0 ?_) | (refine wpL_stNew rfl _ _ _ rfl rfl rfl rfl (opv_size _) rfl (opv_one9 _) ?_; go_simp))
      have hln : pre.length ≤ 9 + 128 * 60 ∧ (fN rp).length ≤ 9 ∧ (fN at_).length ≤ 9 ∧ (fN nm).length ≤ 9 ∧ (fRow ck).length ≤ 81 := ⟨by omega, fN_le (by unfold mx63; omega), fN_le hat.2, fN_le hnm.2, fRow_le hck⟩
      have HLN := hid_of' hln
      have hb := below_one wr (.cells (opv (kd, rp, at_, ch)) 58)
      have R5 := RowAt.new wr (opv (kd, rp, at_, ch)) 58
      have A5 := HA0.out.later hb
      clear hln hb hc0 HA0
      generalize wr.alloc (.cells (opv (kd, rp, at_, ch)) 58) = w5 at R5 A5 ⊢
      generalize wr.heap.size = b at R5 ⊢
      have hw8 : IntKind.u8.wrap kd = kd := u8_kind (by omega) (by omega)
      have ck5 : w5.cell? ⟨b, 0, none⟩ = some (.int .i64 kd) := R5.cell 0
      have N5 := one_newI w5 (UInt8.ofNat kd.toNat) kd (u8_of (by omega) (by omega))
      have O5 := A5.own.alloc (.cells #[.int .u8 kd] 5)
      have HO5 := hid_of' (And.intro A5 R5)
      have hs5 := A5.k.size
      clear A5 R5
      go_upto_region 7 with (at_builtin; refine wpL_appB (xs := pre) (l := [UInt8.ofNat kd.toNat]) (zs := pre ++ [UInt8.ofNat kd.toNat]) (m := 1) (c := 1) rfl _ _ rfl rfl rfl rfl rfl O5 N5 (by simp only [List.length_append, List.length_cons, List.length_nil]; have := HLN.out; omega) (by simp; omega) ?_; intro v6 w6 q1 q2; obtain ⟨va6, vn6, vc6, rfl⟩ := ownB_form q1)
      have b5 := below_one w5 (.cells #[.int .u8 kd] 5)
      have A6 := HO5.out.1.next b5 q1 q2
      have R6 := HO5.out.1.row b5 q2 HO5.out.2 (by decide)
      have cr6 : w6.cell? ⟨b, 3, none⟩ = some (.int .i64 rp) := R6.cell 3
      clear ck5 N5 O5 q1 q2 b5 hs5
      have HF6 := hid_of' (And.intro (fun w => refFormI rp hrp.1 (by unfold mx63; omega) w) (And.intro A6 R6))
      have hp6 : 0 < (fN rp).length := List.length_pos_iff.2 (form_ne _)
      have hl6 : ((pre ++ [UInt8.ofNat kd.toNat]) ++ fN rp).length ≤ 1000000 := by simp only [List.length_append, List.length_cons, List.length_nil]; have := HLN.out; omega
      have HL6 := hid_of' (And.intro hp6 hl6)
      have hs6 := A6.k.size
      clear A6 hp6 hl6
      go_upto_region 8 with (first
        | (go_at_call 15; refine (HF6.out.1 _).mono ?_; rintro e u6 ⟨fv, rfl, of6, hb6⟩; obtain ⟨fa, fn, fc, rfl⟩ := ownB_form of6; have O6 := ownB_later HF6.out.2.1.own hb6; have hz6 := hb6.size)
        | (at_builtin; refine wpL_appO rfl _ _ rfl rfl rfl O6 of6 HL6.out.1 HL6.out.2 (by omega) ?_; intro v7 w7 q1 q2; obtain ⟨va7, vn7, vc7, rfl⟩ := ownB_form q1))
      have A7 := HF6.out.2.1.next hb6 q1 q2
      have R7 := HF6.out.2.1.row hb6 q2 HF6.out.2.2 (by decide)
      have ct7 : w7.cell? ⟨b, 1, none⟩ = some (.int .i64 at_) := R7.cell 1
      clear O6 of6 hb6 q1 q2 hz6 hs6
      have HF7 := hid_of' (And.intro (fun w => refFormI at_ hat.1 hat.2 w) (And.intro A7 R7))
      have hp7 : 0 < (fN at_).length := List.length_pos_iff.2 (form_ne _)
      have hl7 : ((pre ++ [UInt8.ofNat kd.toNat] ++ fN rp) ++ fN at_).length ≤ 1000000 := by simp only [List.length_append, List.length_cons, List.length_nil]; have := HLN.out; omega
      have HL7 := hid_of' (And.intro hp7 hl7)
      have hs7 := A7.k.size
      clear A7 hp7 hl7
      go_upto_region 9 with (first
        | (go_at_call 15; refine (HF7.out.1 _).mono ?_; rintro e u7 ⟨fv, rfl, of7, hb7⟩; obtain ⟨fa, fn, fc, rfl⟩ := ownB_form of7; have O7 := ownB_later HF7.out.2.1.own hb7; have hz7 := hb7.size)
        | (at_builtin; refine wpL_appO rfl _ _ rfl rfl rfl O7 of7 HL7.out.1 HL7.out.2 (by omega) ?_; intro v8 w8 q1 q2; obtain ⟨va8, vn8, vc8, rfl⟩ := ownB_form q1))
      have A8 := HF7.out.2.1.next hb7 q1 q2
      have R8 := HF7.out.2.1.row hb7 q2 HF7.out.2.2 (by decide)
      have ck8 : w8.cell? ⟨b, 0, none⟩ = some (.int .i64 kd) := R8.cell 0
      clear O7 of7 hb7 q1 q2 hz7 hs7
      by_cases hk1 : kd = 1
      · have hch1 : 0 ≤ ch ∧ ch ≤ 1114111 := by rw [if_pos hk1] at hch; exact hch
        have hc9 : (fN ch).length ≤ 9 := fN_le (by unfold mx63; omega)
        have hkk : (kd == 1) = true := by rw [beq_iff_eq]; exact hk1
        have hwc : IntKind.i64.wrap ch = ch := by rw [IntKind.wrap_i64]; omega
        go_upto_region 10 with fail
        have cc8 : w8.cell? ⟨b, 2, none⟩ = some (.int .i32 ch) := R8.cell 2
        clear ck8
        have HF8 := hid_of' (And.intro (fun w => refFormI ch hch1.1 (by unfold mx63; omega) w) (And.intro A8 R8))
        have hp8 : 0 < (fN ch).length := List.length_pos_iff.2 (form_ne _)
        have hl8 : ((pre ++ [UInt8.ofNat kd.toNat] ++ fN rp ++ fN at_) ++ fN ch).length ≤ 1000000 := by simp only [List.length_append, List.length_cons, List.length_nil]; have := HLN.out; omega
        have HL8 := hid_of' (And.intro hp8 hl8)
        have hs8 := A8.k.size
        clear A8 hp8 hl8
        go_upto_region 11 with (first
          | (go_at_call 15; refine (HF8.out.1 _).mono ?_; rintro e u8 ⟨fv, rfl, of8, hb8⟩; obtain ⟨fa, fn, fc, rfl⟩ := ownB_form of8; have O8 := ownB_later HF8.out.2.1.own hb8; have hz8 := hb8.size)
          | (at_builtin; refine wpL_appO rfl _ _ rfl rfl rfl O8 of8 HL8.out.1 HL8.out.2 (by omega) ?_; intro v9 w9 q1 q2; obtain ⟨va9, vn9, vc9, rfl⟩ := ownB_form q1))
        have A9 := HF8.out.2.1.next hb8 q1 q2
        have R9 := HF8.out.2.1.row hb8 q2 HF8.out.2.2 (by decide)

        clear O8 of8 hb8 q1 q2 hz8 hs8
        have HF9 := hid_of' (And.intro (fun w => refFormI nm (by omega) hnm.2 w) (And.intro A9 R9))
        have hp9 : 0 < (fN nm).length := List.length_pos_iff.2 (form_ne _)
        have hl9 : ((pre ++ [UInt8.ofNat kd.toNat] ++ fN rp ++ fN at_ ++ fN ch) ++ fN nm).length ≤ 1000000 := by simp only [List.length_append, List.length_cons, List.length_nil]; have := HLN.out; omega
        have HL9 := hid_of' (And.intro hp9 hl9)
        have hs9 := A9.k.size
        have cn9 : w9.cell? ⟨g, o + k * 13 + 4, none⟩ = some (.int .i64 nm) := (HG.out.later A9.k).2 4 _ rfl
        clear A9 hp9 hl9
        go_upto_region 12 with (first
          | (go_at_call 15; refine (HF9.out.1 _).mono ?_; rintro e u9 ⟨fv, rfl, of9, hb9⟩; obtain ⟨fa, fn, fc, rfl⟩ := ownB_form of9; have O9 := ownB_later HF9.out.2.1.own hb9; have hz9 := hb9.size)
          | (at_builtin; refine wpL_appO rfl _ _ rfl rfl rfl O9 of9 HL9.out.1 HL9.out.2 (by omega) ?_; intro v10 w10 q1 q2; obtain ⟨va10, vn10, vc10, rfl⟩ := ownB_form q1))
        have A10 := HF9.out.2.1.next hb9 q1 q2
        have R10 := HF9.out.2.1.row hb9 q2 HF9.out.2.2 (by decide)
        have cl10 := (HG.out.later A10.k).sub (ds := cv ck) 5 (acv_ck ((kd, rp, at_, ch), nm, ck))
        clear O9 of9 hb9 q1 q2 hz9 hs9
        have HF10 := hid_of' (And.intro (fun w => refClock_any ck hck w) (And.intro A10 R10))
        have hp10 : 0 < (fRow ck).length := (by unfold fRow fRowG; rw [List.length_append]; have := List.length_pos_iff.2 (form_ne (lenG nzI ck)); omega)
        have hl10 : ((pre ++ [UInt8.ofNat kd.toNat] ++ fN rp ++ fN at_ ++ fN ch ++ fN nm) ++ fRow ck).length ≤ 1000000 := by simp only [List.length_append, List.length_cons, List.length_nil]; have := HLN.out; omega
        have HL10 := hid_of' (And.intro hp10 hl10)
        have hs10 := A10.k.size
        clear A10 hp10 hl10
        go_upto_region 4 with (first
          | (go_at_call 18; refine (HF10.out.1 _).mono ?_; rintro e u10 ⟨fv, rfl, of10, hb10⟩; obtain ⟨fa, fn, fc, rfl⟩ := ownB_form of10; have O10 := ownB_later HF10.out.2.1.own hb10; have hz10 := hb10.size)

          | (refine ld_ck hl8 rfl _ rfl rfl cl10 ?_)
          | (at_builtin; refine wpL_appO rfl _ _ rfl rfl rfl O10 of10 HL10.out.1 HL10.out.2 (by omega) ?_; intro v11 w11 q1 q2; obtain ⟨va11, vn11, vc11, rfl⟩ := ownB_form q1))
        have A11 := HF10.out.2.1.next hb10 q1 q2
        have R11 := HF10.out.2.1.row hb10 q2 HF10.out.2.2 (by decide)

        clear O10 of10 hb10 q1 q2 hz10 hs10
        have HB := hid_of' A11
        clear A11 R11
        go_wp2
        go_roundw
        case rel =>
          refine ⟨k + 1, _, _, _, by go_num, rfl, by omega, ?_⟩
          rw [fActs_step HX.out.1, ← List.append_assoc, ← HX.out.2]
          have e : pre ++ fAct ((kd, rp, at_, ch), nm, ck) = pre ++ [UInt8.ofNat kd.toNat] ++ fN rp ++ fN at_ ++ fN ch ++ fN nm ++ fRow ck := by
            unfold fAct fOp
            simp only [if_pos hk1, List.append_assoc, List.cons_append, List.nil_append]
          rw [e]
          exact HB.out
        case measure => simp [intOf]; omega
      · have hkk : (kd == 1) = false := by rw [beq_eq_false_iff_ne]; exact hk1
        go_upto_region 11 with fail
        clear ck8
        have HF8 := hid_of' (And.intro (fun w => refFormI nm (by omega) hnm.2 w) (And.intro A8 R8))
        have hp8 : 0 < (fN nm).length := List.length_pos_iff.2 (form_ne _)
        have hl8 : ((pre ++ [UInt8.ofNat kd.toNat] ++ fN rp ++ fN at_) ++ fN nm).length ≤ 1000000 := by simp only [List.length_append, List.length_cons, List.length_nil]; have := HLN.out; omega
        have HL8 := hid_of' (And.intro hp8 hl8)
        have hs8 := A8.k.size
        have cn8 : w8.cell? ⟨g, o + k * 13 + 4, none⟩ = some (.int .i64 nm) := (HG.out.later A8.k).2 4 _ rfl
        clear A8 hp8 hl8
        go_upto_region 12 with (first
          | (go_at_call 15; refine (HF8.out.1 _).mono ?_; rintro e u8 ⟨fv, rfl, of8, hb8⟩; obtain ⟨fa, fn, fc, rfl⟩ := ownB_form of8; have O8 := ownB_later HF8.out.2.1.own hb8; have hz8 := hb8.size)
          | (at_builtin; refine wpL_appO rfl _ _ rfl rfl rfl O8 of8 HL8.out.1 HL8.out.2 (by omega) ?_; intro v9 w9 q1 q2; obtain ⟨va9, vn9, vc9, rfl⟩ := ownB_form q1))
        have A9 := HF8.out.2.1.next hb8 q1 q2
        have R9 := HF8.out.2.1.row hb8 q2 HF8.out.2.2 (by decide)
        have cl9 := (HG.out.later A9.k).sub (ds := cv ck) 5 (acv_ck ((kd, rp, at_, ch), nm, ck))
        clear O8 of8 hb8 q1 q2 hz8 hs8
        have HF9 := hid_of' (And.intro (fun w => refClock_any ck hck w) (And.intro A9 R9))
        have hp9 : 0 < (fRow ck).length := (by unfold fRow fRowG; rw [List.length_append]; have := List.length_pos_iff.2 (form_ne (lenG nzI ck)); omega)
        have hl9 : ((pre ++ [UInt8.ofNat kd.toNat] ++ fN rp ++ fN at_ ++ fN nm) ++ fRow ck).length ≤ 1000000 := by simp only [List.length_append, List.length_cons, List.length_nil]; have := HLN.out; omega
        have HL9 := hid_of' (And.intro hp9 hl9)
        have hs9 := A9.k.size
        clear A9 hp9 hl9
        go_upto_region 4 with (first
          | (go_at_call 18; refine (HF9.out.1 _).mono ?_; rintro e u9 ⟨fv, rfl, of9, hb9⟩; obtain ⟨fa, fn, fc, rfl⟩ := ownB_form of9; have O9 := ownB_later HF9.out.2.1.own hb9; have hz9 := hb9.size)

          | (refine ld_ck hl8 rfl _ rfl rfl cl9 ?_)
          | (at_builtin; refine wpL_appO rfl _ _ rfl rfl rfl O9 of9 HL9.out.1 HL9.out.2 (by omega) ?_; intro v10 w10 q1 q2; obtain ⟨va10, vn10, vc10, rfl⟩ := ownB_form q1))
        have A10 := HF9.out.2.1.next hb9 q1 q2
        have R10 := HF9.out.2.1.row hb9 q2 HF9.out.2.2 (by decide)

        clear O9 of9 hb9 q1 q2 hz9 hs9
        have HB := hid_of' A10
        clear A10 R10
        go_wp2
        go_roundw
        case rel =>
          refine ⟨k + 1, _, _, _, by go_num, rfl, by omega, ?_⟩
          rw [fActs_step HX.out.1, ← List.append_assoc, ← HX.out.2]
          have e : pre ++ fAct ((kd, rp, at_, ch), nm, ck) = pre ++ [UInt8.ofNat kd.toNat] ++ fN rp ++ fN at_ ++ fN nm ++ fRow ck := by
            unfold fAct fOp
            simp only [if_neg hk1, List.append_assoc, List.cons_append, List.nil_append, List.append_nil]
          rw [e]
          exact HB.out
        case measure => simp [intOf]; omega
    · have hki : ¬ (k : Int) < (n : Int) := by omega
      have hkk : k = n := by omega
      have HB := hid_of' (And.intro A hkk)
      clear A hkk
      go_wp2
      go_ret
      refine ⟨_, rfl, ?_, HB.out.1.k⟩
      have e : fActs l = formN n ++ ((l.take k).map fAct).flatten := by
        rw [HB.out.2, ← HA.out.2.2, List.take_length]
        rfl
      rw [e]
      exact HB.out.1.own
end Go.Proofs.YteffpnjgchihpaaGreatDoor
