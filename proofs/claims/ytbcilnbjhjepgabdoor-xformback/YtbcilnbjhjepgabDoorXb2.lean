
/-
  barrowlaw07.XformBack: what T has brought about, and back.
-/
import Derived.Test.YtbcilnbjhjepgabDoorXb1
import Derived.Test.YtbcilnbjhjepgabDoorInvF
namespace Go.Proofs.YtbcilnbjhjepgabDoor
open Go.RowKit
set_option maxRecDepth 100000

theorem tO_lo (a b : Xo) : a.p ≤ (tO a b).p := by
  rcases tO_is a b with h | h <;> rw [h]
  · exact Int.le_refl _
  · show a.p ≤ a.p + 1; omega
theorem tO_hi (a b : Xo) : (tO a b).p ≤ a.p + 1 := by
  rcases tO_is a b with h | h <;> rw [h]
  · omega
  · exact Int.le_refl _
theorem bk_ge (a b : Xo) : a.p - 1 ≤ (bkO a b).1.p := by
  unfold bkO
  split
  · show a.p - 1 ≤ a.p; omega
  · split
    · exact Int.le_refl _
    · show a.p - 1 ≤ a.p; omega
theorem mask_ok (p : Int) : 0 ≤ bits .and .i64 p 2305843009213693951 ∧ bits .and .i64 p 2305843009213693951 ≤ 2305843009213693951 := by
  have h1 : (BitVec.ofInt 64 p &&& BitVec.ofInt 64 2305843009213693951).toNat ≤ 2305843009213693951 := by
    rw [BitVec.toNat_and]
    exact Nat.and_le_right
  show 0 ≤ IntKind.i64.wrap ((BitVec.ofInt 64 p &&& BitVec.ofInt 64 2305843009213693951).toNat : Int) ∧ IntKind.i64.wrap ((BitVec.ofInt 64 p &&& BitVec.ofInt 64 2305843009213693951).toNat : Int) ≤ 2305843009213693951
  generalize (BitVec.ofInt 64 p &&& BitVec.ofInt 64 2305843009213693951).toNat = q at *
  rw [IntKind.wrap_i64]
  omega

set_option maxHeartbeats 2000000 in
theorem xformBack_all {W : World} {v0 v1 : Value} {l m : List Xo} (h0 : SlO W v0 l) (h1 : SlO W v1 m) (hml : l.length ≤ 9223372036854775807) :
    Calls Tryd.prog 3 #[v0, v1] W fun r w' => r = .returned (.bool true) ∧ Below W.heap.size W w' := by
  obtain ⟨a0, c0, rfl⟩ := h0.form
  obtain ⟨a1, c1, rfl⟩ := h1.form
  have HW := hid_of' wakes7_ok
  go_enter Tryd.func3, Tryd.ntmps3
  go_upto_region 2 with fail
  go_loopw [5] (fun i wr => ∃ k : Nat, i = .int .i64 (k : Int) ∧ k ≤ l.length ∧ Below W.heap.size W wr) (fun i _ => l.length - (intOf i).toNat)
  case atStart => exact ⟨0, rfl, Nat.zero_le _, Below.refl _ _⟩
  obtain ⟨k, rfl, hk, hB⟩ := hrel
  by_cases q0 : k < l.length
  · have p0 : (k : Int) < (l.length : Int) := by omega
    by_cases q1 : k < m.length
    · have p1 : (k : Int) < (m.length : Int) := by omega
      have hkt : (k : Int).toNat = k := by omega
      obtain ⟨g0, o0, rfl, hc0⟩ := (h0.later hB).some (by omega)
      obtain ⟨g1, o1, rfl, hc1⟩ := (h1.later hB).some (by omega)
      obtain ⟨a, ha⟩ : ∃ a, l[k]? = some a := ⟨_, List.getElem?_eq_getElem q0⟩
      obtain ⟨b, hb⟩ : ∃ b, m[k]? = some b := ⟨_, List.getElem?_eq_getElem q1⟩
      have hea := hc0 k a ha
      have heb := hc1 k b hb
      clear hc0 hc1 ha hb
      go_upto_region 4 with fail
      refine wp_region_float (by kernel_rfl) (by kernel_rfl) (fun i v x => match i with
        | 0 => v = .slice (some ⟨g0, o0, none⟩) l.length c0
        | 1 => v = .int .i64 (k : Int)
        | 2 => v = .pointer (some ⟨g0, o0 + k * 4, none⟩)
        | 3 => v = .agg (ov a)
        | 4 => v = .slice (some ⟨g1, o1, none⟩) m.length c1
        | 5 => v = .int .i64 (k : Int)
        | 6 => v = .pointer (some ⟨g1, o1 + k * 4, none⟩)
        | 7 => v = .agg (ov b)
        | _ => True) (fun i => match i with | 8 => some (24, 4) | 9 => some (24, 4) | _ => none) (fun i => match i with | 10 => some (8, 3) | 11 => some (9, 7) | _ => none) ?_ ?_ ?_ ?_ ?_ ?_ ?_
      · intro kk f s h
        match kk, h with
        | 10, h => cases h; exact ⟨rfl, (by intro h; cases h), rfl, rfl, _, _, _, _, _, ⟨8, .data⟩, ⟨3, .data⟩, rfl, rfl, rfl, rfl, rfl, (by simp), rfl, rfl, (by simp), rfl, rfl⟩
        | 11, h => cases h; exact ⟨rfl, (by intro h; cases h), rfl, rfl, _, _, _, _, _, ⟨9, .data⟩, ⟨7, .data⟩, rfl, rfl, rfl, rfl, rfl, (by simp), rfl, rfl, (by simp), rfl, rfl⟩
        | 0, h | 1, h | 2, h | 3, h | 4, h | 5, h | 6, h | 7, h | 8, h | 9, h => cases h
        | m + 12, h => cases h
      · intro i t n h
        match i, h with
        | 8, h => rfl
        | 9, h => rfl
        | 0, h | 1, h | 2, h | 3, h | 4, h | 5, h | 6, h | 7, h | 10, h | 11, h => cases h
        | m + 12, h => cases h
      · intro p q f s s' h1 h2
        have e1 : (p = 10 ∧ f = 8) ∨ (p = 11 ∧ f = 9) := by
          match p, h1 with
          | 10, h => cases h; simp
          | 11, h => cases h; simp
          | 0, h | 1, h | 2, h | 3, h | 4, h | 5, h | 6, h | 7, h | 8, h | 9, h => cases h
          | m + 12, h => cases h
        have e2 : (q = 10 ∧ f = 8) ∨ (q = 11 ∧ f = 9) := by
          match q, h2 with
          | 10, h => cases h; simp
          | 11, h => cases h; simp
          | 0, h | 1, h | 2, h | 3, h | 4, h | 5, h | 6, h | 7, h | 8, h | 9, h => cases h
          | m + 12, h => cases h
        omega
      · intro i o ho hA hK q x vals S hX hS hdep hoth
        have t0 : q.tmps[0]? = some (.slice (some ⟨g0, o0, none⟩) l.length c0) := by rw [hoth 0 (by kernel_rfl)]; rfl
        have t1 : q.tmps[1]? = some (.slice (some ⟨g1, o1, none⟩) m.length c1) := by rw [hoth 1 (by kernel_rfl)]; rfl
        have t5 : q.tmps[5]? = some (.int .i64 (k : Int)) := by rw [hoth 5 (by kernel_rfl)]; rfl
        match i, ho, hA, hK with
        | 0, ho, hA, hK =>
          simp only [List.getElem?_cons_zero, Option.some.injEq] at ho
          subst ho
          unfold Oper.wp
          simp [execOp, go_sem, t0]
          exact cameF _ rfl (Below.refl _ _) (fun _ _ => rfl)
        | 1, ho, hA, hK =>
          simp only [List.getElem?_cons_succ, List.getElem?_cons_zero, Option.some.injEq] at ho
          subst ho
          unfold Oper.wp
          simp [execOp, go_sem, t5]
          exact cameF _ rfl (Below.refl _ _) (fun _ _ => rfl)
        | 2, ho, hA, hK =>
          simp only [List.getElem?_cons_succ, List.getElem?_cons_zero, Option.some.injEq] at ho
          subst ho
          obtain ⟨u0, e0⟩ := hdep ⟨0, .data⟩ (by simp) rfl _ 26 rfl rfl
          rw [show vals 0 = .slice (some ⟨g0, o0, none⟩) l.length c0 from e0 rfl rfl x (KeptP.refl _ _)] at u0
          obtain ⟨u1, e1⟩ := hdep ⟨1, .data⟩ (by simp) rfl _ 27 rfl rfl
          rw [show vals 1 = .int .i64 (k : Int) from e1 rfl rfl x (KeptP.refl _ _)] at u1
          unfold Oper.wp
          simp [execOp, go_sem, u0, u1, p0, hkt]
          exact cameF _ rfl (Below.refl _ _) (fun _ _ => rfl)
        | 3, ho, hA, hK =>
          simp only [List.getElem?_cons_succ, List.getElem?_cons_zero, Option.some.injEq] at ho
          subst ho
          obtain ⟨u2, e2⟩ := hdep ⟨2, .data⟩ (by simp) rfl _ 28 rfl rfl
          rw [show vals 2 = .pointer (some ⟨g0, o0 + k * 4, none⟩) from e2 rfl rfl x (KeptP.refl _ _)] at u2
          exact opw_loadO _ rfl (by simp [Act.eval, u2]) (hea.later hX) (cameF _ rfl (Below.refl _ _) (fun _ _ => rfl))
        | 4, ho, hA, hK =>
          simp only [List.getElem?_cons_succ, List.getElem?_cons_zero, Option.some.injEq] at ho
          subst ho
          unfold Oper.wp
          simp [execOp, go_sem, t1]
          exact cameF _ rfl (Below.refl _ _) (fun _ _ => rfl)
        | 5, ho, hA, hK =>
          simp only [List.getElem?_cons_succ, List.getElem?_cons_zero, Option.some.injEq] at ho
          subst ho
          unfold Oper.wp
          simp [execOp, go_sem, t5]
          exact cameF _ rfl (Below.refl _ _) (fun _ _ => rfl)
        | 6, ho, hA, hK =>
          simp only [List.getElem?_cons_succ, List.getElem?_cons_zero, Option.some.injEq] at ho
          subst ho
          obtain ⟨u4, e4⟩ := hdep ⟨4, .data⟩ (by simp) rfl _ 30 rfl rfl
          rw [show vals 4 = .slice (some ⟨g1, o1, none⟩) m.length c1 from e4 rfl rfl x (KeptP.refl _ _)] at u4
          obtain ⟨u5, e5⟩ := hdep ⟨5, .data⟩ (by simp) rfl _ 31 rfl rfl
          rw [show vals 5 = .int .i64 (k : Int) from e5 rfl rfl x (KeptP.refl _ _)] at u5
          unfold Oper.wp
          simp [execOp, go_sem, u4, u5, p1, hkt]
          exact cameF _ rfl (Below.refl _ _) (fun _ _ => rfl)
        | 7, ho, hA, hK =>
          simp only [List.getElem?_cons_succ, List.getElem?_cons_zero, Option.some.injEq] at ho
          subst ho
          obtain ⟨u6, e6⟩ := hdep ⟨6, .data⟩ (by simp) rfl _ 32 rfl rfl
          rw [show vals 6 = .pointer (some ⟨g1, o1 + k * 4, none⟩) from e6 rfl rfl x (KeptP.refl _ _)] at u6
          exact opw_loadO _ rfl (by simp [Act.eval, u6]) (heb.later hX) (cameF _ rfl (Below.refl _ _) (fun _ _ => rfl))
        | 8, ho, hA, hK => cases hA
        | 9, ho, hA, hK => cases hA
        | 10, ho, hA, hK => cases hK
        | 11, ho, hA, hK => cases hK
        | m + 12, ho, hA, hK => simp at ho
      · intro i o t n ho hA q x
        match i, ho, hA with
        | 8, ho, hA =>
          cases hA
          simp only [List.getElem?_cons_succ, List.getElem?_cons_zero, Option.some.injEq] at ho
          subst ho
          unfold Oper.wp
          simp [execOp, go_sem]
          exact ⟨_, rfl, rfl, rfl⟩
        | 9, ho, hA =>
          cases hA
          simp only [List.getElem?_cons_succ, List.getElem?_cons_zero, Option.some.injEq] at ho
          subst ho
          unfold Oper.wp
          simp [execOp, go_sem]
          exact ⟨_, rfl, rfl, rfl⟩
        | 0, ho, hA | 1, ho, hA | 2, ho, hA | 3, ho, hA | 4, ho, hA | 5, ho, hA | 6, ho, hA | 7, ho, hA | 10, ho, hA | 11, ho, hA => cases hA
        | m + 12, ho, hA => cases hA
      · intro i o of os_ f s n g' t df ds sv ho hK hA hf hs hdf hds q x cs0 sf ss hR hg hn
        match i, ho, hK with
        | 10, ho, hK =>
          cases hK
          cases hA
          simp only [List.getElem?_cons_succ, List.getElem?_cons_zero, Option.some.injEq] at ho hf hs
          subst ho hf hs
          cases hdf
          cases hds
          obtain rfl : sv = .agg (ov a) := hR
          exact wp_store_row _ _ _ rfl g' ((ov a)) (by simp [Act.eval, sf]) (by simp [Act.eval, ss]) _ cs0 hg (o_size a) (by rw [hn]; rfl) (by simp [Value.oneCell', ov]) ⟨undef, (ov a), rfl, rfl, rfl, rfl⟩
        | 11, ho, hK =>
          cases hK
          cases hA
          simp only [List.getElem?_cons_succ, List.getElem?_cons_zero, Option.some.injEq] at ho hf hs
          subst ho hf hs
          cases hdf
          cases hds
          obtain rfl : sv = .agg (ov b) := hR
          exact wp_store_row _ _ _ rfl g' ((ov b)) (by simp [Act.eval, sf]) (by simp [Act.eval, ss]) _ cs0 hg (o_size b) (by rw [hn]; rfl) (by simp [Value.oneCell', ov]) ⟨undef, (ov b), rfl, rfl, rfl, rfl⟩
        | 0, ho, hK | 1, ho, hK | 2, ho, hK | 3, ho, hK | 4, ho, hK | 5, ho, hK | 6, ho, hK | 7, ho, hK | 8, ho, hK | 9, ho, hK => cases hK
        | m + 12, ho, hK => cases hK
      · intro vals w5 hb5 hR5 hBk
        obtain ⟨gA, csA, qA, gA0, hrA, _, hstA⟩ := hBk 8 _ _ (by decide) rfl
        obtain ⟨gB, csB, qB, gB0, hrB, _, hstB⟩ := hBk 9 _ _ (by decide) rfl
        have v3 : vals 3 = .agg (ov a) := hR5 3 (by decide) rfl rfl
        have v7 : vals 7 = .agg (ov b) := hR5 7 (by decide) rfl rfl
        have eA : csA = ov a := Value.agg.inj ((hstA 10 3 (by decide) rfl).symm.trans v3)
        have eB : csB = ov b := Value.agg.inj ((hstB 11 7 (by decide) rfl).symm.trans v7)
        subst eA eB
        have rA : RowAt gA (ov a) 24 w5 := hrA
        have rB : RowAt gB (ov b) 24 w5 := hrB
        simp only [putAll, qA, qB, List.setIfInBounds_toArray, List.set_cons_succ, List.set_cons_zero]
        clear hrA hrB hR5 hBk hstA hstB v3 v7 qA qB hea heb
        generalize vals 0 = z0
        generalize vals 1 = z1
        generalize vals 2 = z2
        generalize vals 3 = z3
        generalize vals 4 = z4
        generalize vals 5 = z5
        generalize vals 6 = z6
        generalize vals 7 = z7
        clear vals
        have hsz := hB.size
        replace hB := bgo hB hb5
        have d1 : w5.cell? ⟨gA, 1, none⟩ = some (.int .i64 a.p) := rA.cell 1
        have f1 : w5.frozen? ⟨gA, 1, none⟩ = false := Lib.frozen_of_heap rA 1
        have mk1 := mask_ok a.p
        go_upto_region 6 with fail
        generalize bits .and .i64 a.p 2305843009213693951 = m1 at mk1 ⊢
        have hBx : ∃ b' : Xo, RowAt gB (ov b') 24 (w5.setCell ⟨gA, 1, none⟩ (.int .i64 m1)) := by
          by_cases hg : gB = gA
          · rw [hg]; exact ⟨_, row_setO rA m1⟩
          · exact ⟨_, rB.otherP _ _ hg⟩
        replace rA := row_setO rA m1
        clear rB
        obtain ⟨b, rB⟩ := hBx
        replace hB : Below W.heap.size W (w5.setCell ⟨gA, 1, none⟩ (.int .i64 m1)) := below_setO hB (Nat.le_trans hsz gA0) _ _
        generalize w5.setCell ⟨gA, 1, none⟩ (.int .i64 m1) = w6 at rA rB hB ⊢
        clear d1 f1
        have d1 : w6.cell? ⟨gB, 1, none⟩ = some (.int .i64 b.p) := rB.cell 1
        have f1 : w6.frozen? ⟨gB, 1, none⟩ = false := Lib.frozen_of_heap rB 1
        have mk2 := mask_ok b.p
        go_upto_region 7 with fail
        generalize bits .and .i64 b.p 2305843009213693951 = m2 at mk2 ⊢
        have hAx : ∃ a' : Xo, (0 ≤ a'.p ∧ a'.p ≤ 2305843009213693951) ∧ RowAt gA (ov a') 24 (w6.setCell ⟨gB, 1, none⟩ (.int .i64 m2)) := by
          by_cases hg : gA = gB
          · rw [hg]; exact ⟨_, mk2, row_setO rB m2⟩
          · exact ⟨_, mk1, rA.otherP _ _ hg⟩
        have hBy : ∃ b' : Xo, (0 ≤ b'.p ∧ b'.p ≤ 2305843009213693951) ∧ RowAt gB (ov b') 24 (w6.setCell ⟨gB, 1, none⟩ (.int .i64 m2)) := ⟨_, mk2, row_setO rB m2⟩
        replace hB : Below W.heap.size W (w6.setCell ⟨gB, 1, none⟩ (.int .i64 m2)) := below_setO hB (Nat.le_trans hsz gB0) _ _
        generalize w6.setCell ⟨gB, 1, none⟩ (.int .i64 m2) = w7 at hAx hBy hB ⊢
        clear d1 f1 rA rB mk1 mk2 gA0 gB0 hsz hb5
        obtain ⟨A, hA, rA⟩ := hAx
        obtain ⟨B, hBp, rB⟩ := hBy
        obtain ⟨ra, era⟩ : ∃ x, rightO A = x := ⟨_, rfl⟩
        obtain ⟨rb, erb⟩ : ∃ x, rightO B = x := ⟨_, rfl⟩
        have HRa := hid_of' (fun x => refRight7_is era x)
        have HRb := hid_of' (fun x => refRight7_is erb x)
        cases ra with
        | false =>
          go_wp2_with (first | (refine wpL_loadO rfl (.tmp 6) rfl rfl rA.in ?_) | (go_at_call 9; refine (HRa.out _).mono ?_; rintro r w8 ⟨rfl, hb8⟩))
          go_roundw
          case rel => exact ⟨k + 1, by go_num, by omega, bgo hB hb8⟩
          case measure => simp [intOf]; omega
        | true =>
          cases rb with
          | false =>
            go_upto_region 3 with (first | (refine wpL_loadO rfl (.tmp 6) rfl rfl rA.in ?_) | (refine opw_loadO (.tmp 7) rfl rfl (rB.in.later hb8) ?_) | (go_at_call 9; refine (HRa.out _).mono ?_; clear HRa; rintro r w8 ⟨rfl, hb8⟩) | (go_at_call 9; refine (HRb.out _).mono ?_; rintro r w9 ⟨rfl, hb9⟩))
            go_wp2
            go_roundw
            case rel => exact ⟨k + 1, by go_num, by omega, bgo hB (bgo hb8 hb9)⟩
            case measure => simp [intOf]; omega
          | true =>
            go_upto_region 8 with (first | (refine wpL_loadO rfl (.tmp 6) rfl rfl rA.in ?_) | (refine opw_loadO (.tmp 7) rfl rfl (rB.in.later hb8) ?_) | (go_at_call 9; refine (HRa.out _).mono ?_; clear HRa; rintro r w8 ⟨rfl, hb8⟩) | (go_at_call 9; refine (HRb.out _).mono ?_; rintro r w9 ⟨rfl, hb9⟩))
            replace hB := bgo hB (bgo hb8 hb9)
            replace rA := rA.later (bgo hb8 hb9)
            replace rB := rB.later (bgo hb8 hb9)
            clear HRb hb8 hb9 w8 w7
            have kA := rightO_kind era
            have bt := back_t (b := B) kA (show A.p < 4611686018427387900 by omega)
            have lo := tO_lo A B
            have hi := tO_hi A B
            have HZ : Hid (∀ x, Calls Tryd.prog 10 #[.agg (ov (tO A B)), .agg (ov B)] x fun r w' => r = .returned (.tuple #[.agg (ov A), .bool true]) ∧ Below x.heap.size x w') := fun x => by
              have := backX_any (tO A B) B x (by omega) (by omega)
              rw [bt] at this
              exact this
            have HX := hid_of' (fun x => backX_any A B x hA.1 (by omega))
            have HR := hid_of' (fun x => refBack_any A B x hA.1 (by omega) hBp.1)
            have xlo := bk_ge A B
            have tb : (bkO A B).2 = true → tO (bkO A B).1 B = A := t_back
            obtain ⟨⟨X, ok⟩, ebk⟩ : ∃ x, bkO A B = x := ⟨_, rfl⟩
            rw [ebk] at HX HR xlo tb
            clear ebk bt era erb
            have hAp := hA.1
            have hAq := hA.2
            clear hA hBp
            go_upto_region 9 with (first | (refine wpL_loadO rfl (.tmp 6) rfl rfl rA.in ?_; go_simp) | (refine wpL_loadO rfl (.tmp 7) rfl rfl rB.in ?_; go_simp) | (go_at_call 10; refine (HX.out _).mono ?_; clear HX; rintro r w2 ⟨rfl, hbw⟩) | (refine wpL_storeO (e := X) rfl _ _ rfl rfl rfl (row_new w2 _ _) ?_))
            have rX := (row_new w2 #[.int .i64 0, .int .i64 0, .int .i32 0, .int .i64 0] 24).put (ov X)
            have hbn : Below w9.heap.size w9 ((w2.alloc (.cells #[.int .i64 0, .int .i64 0, .int .i32 0, .int .i64 0] 24)).setRow w2.heap.size (ov X)) := bgo hbw (below_row (below_one w2 _) (Nat.le_refl _) _)
            generalize (w2.alloc (.cells #[.int .i64 0, .int .i64 0, .int .i32 0, .int .i64 0] 24)).setRow w2.heap.size (ov X) = w3 at rX hbn ⊢
            generalize w2.heap.size = gX at rX ⊢
            replace hB := bgo hB hbn
            replace rA := rA.later hbn
            replace rB := rB.later hbn
            clear hbw hbn w2
            go_upto_region 10 with (first | (refine wpL_loadO rfl (.tmp 6) rfl rfl rA.in ?_; go_simp) | (refine wpL_loadO rfl (.tmp 7) rfl rfl rB.in ?_; go_simp) | (go_at_call 11; refine (HR.out _).mono ?_; clear HR; rintro r w2 ⟨rfl, hbw⟩) | (refine wpL_storeO (e := X) rfl _ _ rfl rfl rfl (row_new w2 _ _) ?_))
            have rY := (row_new w2 #[.int .i64 0, .int .i64 0, .int .i32 0, .int .i64 0] 24).put (ov X)
            have hbn : Below w3.heap.size w3 ((w2.alloc (.cells #[.int .i64 0, .int .i64 0, .int .i32 0, .int .i64 0] 24)).setRow w2.heap.size (ov X)) := bgo hbw (below_row (below_one w2 _) (Nat.le_refl _) _)
            generalize (w2.alloc (.cells #[.int .i64 0, .int .i64 0, .int .i32 0, .int .i64 0] 24)).setRow w2.heap.size (ov X) = w4 at rY hbn ⊢
            generalize w2.heap.size = gY at rY ⊢
            replace hB := bgo hB hbn
            replace rA := rA.later hbn
            replace rB := rB.later hbn
            replace rX := rX.later hbn
            clear hbw hbn w2
            have hq := eq_O X
            cases ok with
            | false =>
              refine wp_region_cls (by kernel_rfl) (by kernel_rfl) ?_
              repeat (first | go_big_quiet_skip | (go_big_quiet_want; first | (refine quiet_load_in _ _ rfl rfl rX.in.cls Tryd.underlying24 rfl (o_size X) ?_; simp only [Act.put, List.setIfInBounds_toArray, List.set_cons_succ, List.set_cons_zero]; go_big_quiet_on) | (refine quiet_load_in _ _ rfl rfl rY.in.cls Tryd.underlying24 rfl (o_size X) ?_; simp only [Act.put, List.setIfInBounds_toArray, List.set_cons_succ, List.set_cons_zero]; go_big_quiet_on) | (go_big_quiet_op; first | go_big_quiet_on | go_big_quiet_call ((fail)))))
              refine wpQuiet_nil ?_
              rintro w1 ⟨s1, e1⟩
              have hb1 := wOf_below s1
              rw [← e1] at hb1
              clear e1 s1
              replace rA := rA.later hb1
              replace rB := rB.later hb1
              replace hB := bgo hB hb1
              clear hb1
              clear hq
              go_upto_region 12 with fail
              refine wp_region_float (by kernel_rfl) (by kernel_rfl) (fun i v x => match i with
                | 0 => v = .agg (ov A)
                | 1 => v = .agg (ov B)
                | 2 => v = .agg (ov (tO A B))
                | 3 => v = .agg (ov B)
                | 4 => v = .tuple #[.agg (ov A), .bool true]
                | 5 => v = .tuple #[.agg (ov A), .bool true]
                | 6 => v = .agg (ov A)
                | 7 => v = .bool true
                | 10 => v = .bool true
                | _ => True) (fun i => match i with | 8 => some (24, 4) | _ => none) (fun i => match i with | 9 => some (8, 6) | _ => none) ?_ ?_ ?_ ?_ ?_ ?_ ?_
              · intro kk f s h
                match kk, h with
                | 9, h => cases h; exact ⟨rfl, (by intro h; cases h), rfl, rfl, _, _, _, _, _, ⟨8, .data⟩, ⟨6, .data⟩, rfl, rfl, rfl, rfl, rfl, (by simp), rfl, rfl, (by simp), rfl, rfl⟩
                | 0, h | 1, h | 2, h | 3, h | 4, h | 5, h | 6, h | 7, h | 8, h | 10, h => cases h
                | m + 11, h => cases h
              · intro i t n h
                match i, h with
                | 8, h => rfl
                | 0, h | 1, h | 2, h | 3, h | 4, h | 5, h | 6, h | 7, h | 9, h | 10, h => cases h
                | m + 11, h => cases h
              · intro p q f s s' h1 h2
                have e1 : (p = 9 ∧ f = 8) := by
                  match p, h1 with
                  | 9, h => cases h; simp
                  | 0, h | 1, h | 2, h | 3, h | 4, h | 5, h | 6, h | 7, h | 8, h | 10, h => cases h
                  | m + 11, h => cases h
                have e2 : (q = 9 ∧ f = 8) := by
                  match q, h2 with
                  | 9, h => cases h; simp
                  | 0, h | 1, h | 2, h | 3, h | 4, h | 5, h | 6, h | 7, h | 8, h | 10, h => cases h
                  | m + 11, h => cases h
                omega
              · intro i o ho hA hK q x vals S hX hS hdep hoth
                have t6 : q.tmps[6]? = some (.pointer (some ⟨gA, 0, none⟩)) := by rw [hoth 6 (by kernel_rfl)]; rfl
                have t7 : q.tmps[7]? = some (.pointer (some ⟨gB, 0, none⟩)) := by rw [hoth 7 (by kernel_rfl)]; rfl
                match i, ho, hA, hK with
                | 0, ho, hA, hK =>
                  simp only [List.getElem?_cons_zero, Option.some.injEq] at ho
                  subst ho
                  exact opw_loadO _ rfl (by simp [Act.eval, t6]) (rA.in.later hX) (cameF _ rfl (Below.refl _ _) (fun _ _ => rfl))
                | 1, ho, hA, hK =>
                  simp only [List.getElem?_cons_succ, List.getElem?_cons_zero, Option.some.injEq] at ho
                  subst ho
                  exact opw_loadO _ rfl (by simp [Act.eval, t7]) (rB.in.later hX) (cameF _ rfl (Below.refl _ _) (fun _ _ => rfl))
                | 2, ho, hA, hK =>
                  simp only [List.getElem?_cons_succ, List.getElem?_cons_zero, Option.some.injEq] at ho
                  subst ho
                  obtain ⟨u0, e0⟩ := hdep ⟨0, .data⟩ (by simp) rfl _ 81 rfl rfl
                  rw [show vals 0 = .agg (ov A) from e0 rfl rfl x (KeptP.refl _ _)] at u0
                  obtain ⟨u1, e1⟩ := hdep ⟨1, .data⟩ (by simp) rfl _ 82 rfl rfl
                  rw [show vals 1 = .agg (ov B) from e1 rfl rfl x (KeptP.refl _ _)] at u1
                  unfold Oper.wp
                  simp [go_sem, u0, u1]
                  refine (tX_any A B x (by omega)).mono ?_
                  rintro r x1 ⟨rfl, hb1⟩
                  exact cameF _ rfl hb1 (fun _ _ => rfl)
                | 3, ho, hA, hK =>
                  simp only [List.getElem?_cons_succ, List.getElem?_cons_zero, Option.some.injEq] at ho
                  subst ho
                  exact opw_loadO _ rfl (by simp [Act.eval, t7]) (rB.in.later hX) (cameF _ rfl (Below.refl _ _) (fun _ _ => rfl))
                | 4, ho, hA, hK =>
                  simp only [List.getElem?_cons_succ, List.getElem?_cons_zero, Option.some.injEq] at ho
                  subst ho
                  obtain ⟨u2, e2⟩ := hdep ⟨2, .data⟩ (by simp) rfl _ 83 rfl rfl
                  rw [show vals 2 = .agg (ov (tO A B)) from e2 rfl rfl x (KeptP.refl _ _)] at u2
                  obtain ⟨u3, e3⟩ := hdep ⟨3, .data⟩ (by simp) rfl _ 84 rfl rfl
                  rw [show vals 3 = .agg (ov B) from e3 rfl rfl x (KeptP.refl _ _)] at u3
                  unfold Oper.wp
                  simp [go_sem, u2, u3]
                  refine (HZ.out x).mono ?_
                  rintro r x1 ⟨rfl, hb1⟩
                  exact cameF _ rfl hb1 (fun _ _ => rfl)
                | 5, ho, hA, hK =>
                  simp only [List.getElem?_cons_succ, List.getElem?_cons_zero, Option.some.injEq] at ho
                  subst ho
                  obtain ⟨u4, e4⟩ := hdep ⟨4, .data⟩ (by simp) rfl _ 85 rfl rfl
                  rw [show vals 4 = .tuple #[.agg (ov A), .bool true] from e4 rfl rfl x (KeptP.refl _ _)] at u4
                  unfold Oper.wp
                  simp [execOp, go_sem, u4]
                  exact cameF _ rfl (Below.refl _ _) (fun _ _ => rfl)
                | 6, ho, hA, hK =>
                  simp only [List.getElem?_cons_succ, List.getElem?_cons_zero, Option.some.injEq] at ho
                  subst ho
                  obtain ⟨u5, e5⟩ := hdep ⟨5, .data⟩ (by simp) rfl _ 80 rfl rfl
                  rw [show vals 5 = .tuple #[.agg (ov A), .bool true] from e5 rfl rfl x (KeptP.refl _ _)] at u5
                  unfold Oper.wp
                  simp [execOp, go_sem, u5]
                  exact cameF _ rfl (Below.refl _ _) (fun _ _ => rfl)
                | 7, ho, hA, hK =>
                  simp only [List.getElem?_cons_succ, List.getElem?_cons_zero, Option.some.injEq] at ho
                  subst ho
                  obtain ⟨u5, e5⟩ := hdep ⟨5, .data⟩ (by simp) rfl _ 80 rfl rfl
                  rw [show vals 5 = .tuple #[.agg (ov A), .bool true] from e5 rfl rfl x (KeptP.refl _ _)] at u5
                  unfold Oper.wp
                  simp [execOp, go_sem, u5]
                  exact cameF _ rfl (Below.refl _ _) (fun _ _ => rfl)
                | 8, ho, hA, hK => cases hA
                | 9, ho, hA, hK => cases hK
                | 10, ho, hA, hK =>
                  simp only [List.getElem?_cons_succ, List.getElem?_cons_zero, Option.some.injEq] at ho
                  subst ho
                  obtain ⟨u7, e7⟩ := hdep ⟨7, .data⟩ (by simp) rfl _ 87 rfl rfl
                  rw [show vals 7 = .bool true from e7 rfl rfl x (KeptP.refl _ _)] at u7
                  unfold Oper.wp
                  simp [execOp, go_sem, u7]
                  exact cameF _ rfl (Below.refl _ _) (fun _ _ => rfl)
                | m + 11, ho, hA, hK => simp at ho
              · intro i o t n ho hA q x
                match i, ho, hA with
                | 8, ho, hA =>
                  cases hA
                  simp only [List.getElem?_cons_succ, List.getElem?_cons_zero, Option.some.injEq] at ho
                  subst ho
                  unfold Oper.wp
                  simp [execOp, go_sem]
                  exact ⟨_, rfl, rfl, rfl⟩
                | 0, ho, hA | 1, ho, hA | 2, ho, hA | 3, ho, hA | 4, ho, hA | 5, ho, hA | 6, ho, hA | 7, ho, hA | 9, ho, hA | 10, ho, hA => cases hA
                | m + 11, ho, hA => cases hA
              · intro i o of os_ f s n g' t df ds sv ho hK hA hf hs hdf hds q x cs0 sf ss hR hg hn
                match i, ho, hK with
                | 9, ho, hK =>
                  cases hK
                  cases hA
                  simp only [List.getElem?_cons_succ, List.getElem?_cons_zero, Option.some.injEq] at ho hf hs
                  subst ho hf hs
                  cases hdf
                  cases hds
                  obtain rfl : sv = .agg (ov A) := hR
                  exact wp_store_row _ _ _ rfl g' ((ov A)) (by simp [Act.eval, sf]) (by simp [Act.eval, ss]) _ cs0 hg (o_size A) (by rw [hn]; rfl) (by simp [Value.oneCell', ov]) ⟨undef, (ov A), rfl, rfl, rfl, rfl⟩
                | 0, ho, hK | 1, ho, hK | 2, ho, hK | 3, ho, hK | 4, ho, hK | 5, ho, hK | 6, ho, hK | 7, ho, hK | 8, ho, hK | 10, ho, hK => cases hK
                | m + 11, ho, hK => cases hK
              · intro vals w5 hb5 hR5 hBk
                obtain ⟨gZ, csZ, qZ, _, hrZ, _, hstZ⟩ := hBk 8 _ _ (by decide) rfl
                have v6 : vals 6 = .agg (ov A) := hR5 6 (by decide) rfl rfl
                have v10 : vals 10 = .bool true := hR5 10 (by decide) rfl rfl
                have eZ : csZ = ov A := Value.agg.inj ((hstZ 9 6 (by decide) rfl).symm.trans v6)
                subst eZ
                have rZ : RowAt gZ (ov A) 24 w5 := hrZ
                simp only [putAll, qZ, v10, List.setIfInBounds_toArray, List.set_cons_succ, List.set_cons_zero]
                clear hrZ hR5 hBk hstZ v6 v10 qZ
                replace hB := bgo hB hb5
                replace rA := rA.later hb5
                have hq := eq_O A
                go_upto_region 13 with fail
                refine wp_region_cls0 ?_
                repeat (first | go_big_quiet_skip | (go_big_quiet_want; first | (refine quiet_load_in _ _ rfl rfl rZ.in.cls Tryd.underlying24 rfl (o_size A) ?_; simp only [Act.put, List.setIfInBounds_toArray, List.set_cons_succ, List.set_cons_zero]; go_big_quiet_on) | (refine quiet_load_in _ _ rfl rfl rA.in.cls Tryd.underlying24 rfl (o_size A) ?_; simp only [Act.put, List.setIfInBounds_toArray, List.set_cons_succ, List.set_cons_zero]; go_big_quiet_on) | (go_big_quiet_op; first | go_big_quiet_on | go_big_quiet_call ((fail)))))
                refine wpQuiet_nil ?_
                rintro w1 ⟨s1, e1⟩
                have hb1 := wOf_below s1
                rw [← e1] at hb1
                clear e1 s1
                replace hB := bgo hB hb1
                clear hb1
                go_wp2
                go_roundw
                case rel => exact ⟨k + 1, by go_num, by omega, hB⟩
                case measure => simp [intOf]; omega
            | true =>
              have hT := tb rfl
              have hq2 := eq_O A
              refine wp_region_cls (by kernel_rfl) (by kernel_rfl) ?_
              repeat (first | go_big_quiet_skip | (go_big_quiet_want; first | (refine quiet_load_in _ _ rfl rfl rX.in.cls Tryd.underlying24 rfl (o_size X) ?_; simp only [Act.put, List.setIfInBounds_toArray, List.set_cons_succ, List.set_cons_zero]; go_big_quiet_on) | (refine quiet_load_in _ _ rfl rfl rY.in.cls Tryd.underlying24 rfl (o_size X) ?_; simp only [Act.put, List.setIfInBounds_toArray, List.set_cons_succ, List.set_cons_zero]; go_big_quiet_on) | (refine quiet_load_in _ _ rfl rfl rB.in.cls Tryd.underlying24 rfl (o_size B) ?_; simp only [Act.put, List.setIfInBounds_toArray, List.set_cons_succ, List.set_cons_zero]; go_big_quiet_on) | (refine quiet_load_in _ _ rfl rfl rA.in.cls Tryd.underlying24 rfl (o_size A) ?_; simp only [Act.put, List.setIfInBounds_toArray, List.set_cons_succ, List.set_cons_zero]; go_big_quiet_on) | (go_big_quiet_op; first | go_big_quiet_on | go_big_quiet_call ((go_at_call 12; exact cls_of (tX_is hT _ (by omega)))))))
              refine wpQuiet_nil ?_
              rintro w1 ⟨s1, e1⟩
              have hb1 := wOf_below s1
              rw [← e1] at hb1
              clear e1 s1
              replace rA := rA.later hb1
              replace rB := rB.later hb1
              replace hB := bgo hB hb1
              clear hb1
              clear hq hq2 hT
              go_upto_region 12 with fail
              refine wp_region_float (by kernel_rfl) (by kernel_rfl) (fun i v x => match i with
                | 0 => v = .agg (ov A)
                | 1 => v = .agg (ov B)
                | 2 => v = .agg (ov (tO A B))
                | 3 => v = .agg (ov B)
                | 4 => v = .tuple #[.agg (ov A), .bool true]
                | 5 => v = .tuple #[.agg (ov A), .bool true]
                | 6 => v = .agg (ov A)
                | 7 => v = .bool true
                | 10 => v = .bool true
                | _ => True) (fun i => match i with | 8 => some (24, 4) | _ => none) (fun i => match i with | 9 => some (8, 6) | _ => none) ?_ ?_ ?_ ?_ ?_ ?_ ?_
              · intro kk f s h
                match kk, h with
                | 9, h => cases h; exact ⟨rfl, (by intro h; cases h), rfl, rfl, _, _, _, _, _, ⟨8, .data⟩, ⟨6, .data⟩, rfl, rfl, rfl, rfl, rfl, (by simp), rfl, rfl, (by simp), rfl, rfl⟩
                | 0, h | 1, h | 2, h | 3, h | 4, h | 5, h | 6, h | 7, h | 8, h | 10, h => cases h
                | m + 11, h => cases h
              · intro i t n h
                match i, h with
                | 8, h => rfl
                | 0, h | 1, h | 2, h | 3, h | 4, h | 5, h | 6, h | 7, h | 9, h | 10, h => cases h
                | m + 11, h => cases h
              · intro p q f s s' h1 h2
                have e1 : (p = 9 ∧ f = 8) := by
                  match p, h1 with
                  | 9, h => cases h; simp
                  | 0, h | 1, h | 2, h | 3, h | 4, h | 5, h | 6, h | 7, h | 8, h | 10, h => cases h
                  | m + 11, h => cases h
                have e2 : (q = 9 ∧ f = 8) := by
                  match q, h2 with
                  | 9, h => cases h; simp
                  | 0, h | 1, h | 2, h | 3, h | 4, h | 5, h | 6, h | 7, h | 8, h | 10, h => cases h
                  | m + 11, h => cases h
                omega
              · intro i o ho hA hK q x vals S hX hS hdep hoth
                have t6 : q.tmps[6]? = some (.pointer (some ⟨gA, 0, none⟩)) := by rw [hoth 6 (by kernel_rfl)]; rfl
                have t7 : q.tmps[7]? = some (.pointer (some ⟨gB, 0, none⟩)) := by rw [hoth 7 (by kernel_rfl)]; rfl
                match i, ho, hA, hK with
                | 0, ho, hA, hK =>
                  simp only [List.getElem?_cons_zero, Option.some.injEq] at ho
                  subst ho
                  exact opw_loadO _ rfl (by simp [Act.eval, t6]) (rA.in.later hX) (cameF _ rfl (Below.refl _ _) (fun _ _ => rfl))
                | 1, ho, hA, hK =>
                  simp only [List.getElem?_cons_succ, List.getElem?_cons_zero, Option.some.injEq] at ho
                  subst ho
                  exact opw_loadO _ rfl (by simp [Act.eval, t7]) (rB.in.later hX) (cameF _ rfl (Below.refl _ _) (fun _ _ => rfl))
                | 2, ho, hA, hK =>
                  simp only [List.getElem?_cons_succ, List.getElem?_cons_zero, Option.some.injEq] at ho
                  subst ho
                  obtain ⟨u0, e0⟩ := hdep ⟨0, .data⟩ (by simp) rfl _ 81 rfl rfl
                  rw [show vals 0 = .agg (ov A) from e0 rfl rfl x (KeptP.refl _ _)] at u0
                  obtain ⟨u1, e1⟩ := hdep ⟨1, .data⟩ (by simp) rfl _ 82 rfl rfl
                  rw [show vals 1 = .agg (ov B) from e1 rfl rfl x (KeptP.refl _ _)] at u1
                  unfold Oper.wp
                  simp [go_sem, u0, u1]
                  refine (tX_any A B x (by omega)).mono ?_
                  rintro r x1 ⟨rfl, hb1⟩
                  exact cameF _ rfl hb1 (fun _ _ => rfl)
                | 3, ho, hA, hK =>
                  simp only [List.getElem?_cons_succ, List.getElem?_cons_zero, Option.some.injEq] at ho
                  subst ho
                  exact opw_loadO _ rfl (by simp [Act.eval, t7]) (rB.in.later hX) (cameF _ rfl (Below.refl _ _) (fun _ _ => rfl))
                | 4, ho, hA, hK =>
                  simp only [List.getElem?_cons_succ, List.getElem?_cons_zero, Option.some.injEq] at ho
                  subst ho
                  obtain ⟨u2, e2⟩ := hdep ⟨2, .data⟩ (by simp) rfl _ 83 rfl rfl
                  rw [show vals 2 = .agg (ov (tO A B)) from e2 rfl rfl x (KeptP.refl _ _)] at u2
                  obtain ⟨u3, e3⟩ := hdep ⟨3, .data⟩ (by simp) rfl _ 84 rfl rfl
                  rw [show vals 3 = .agg (ov B) from e3 rfl rfl x (KeptP.refl _ _)] at u3
                  unfold Oper.wp
                  simp [go_sem, u2, u3]
                  refine (HZ.out x).mono ?_
                  rintro r x1 ⟨rfl, hb1⟩
                  exact cameF _ rfl hb1 (fun _ _ => rfl)
                | 5, ho, hA, hK =>
                  simp only [List.getElem?_cons_succ, List.getElem?_cons_zero, Option.some.injEq] at ho
                  subst ho
                  obtain ⟨u4, e4⟩ := hdep ⟨4, .data⟩ (by simp) rfl _ 85 rfl rfl
                  rw [show vals 4 = .tuple #[.agg (ov A), .bool true] from e4 rfl rfl x (KeptP.refl _ _)] at u4
                  unfold Oper.wp
                  simp [execOp, go_sem, u4]
                  exact cameF _ rfl (Below.refl _ _) (fun _ _ => rfl)
                | 6, ho, hA, hK =>
                  simp only [List.getElem?_cons_succ, List.getElem?_cons_zero, Option.some.injEq] at ho
                  subst ho
                  obtain ⟨u5, e5⟩ := hdep ⟨5, .data⟩ (by simp) rfl _ 80 rfl rfl
                  rw [show vals 5 = .tuple #[.agg (ov A), .bool true] from e5 rfl rfl x (KeptP.refl _ _)] at u5
                  unfold Oper.wp
                  simp [execOp, go_sem, u5]
                  exact cameF _ rfl (Below.refl _ _) (fun _ _ => rfl)
                | 7, ho, hA, hK =>
                  simp only [List.getElem?_cons_succ, List.getElem?_cons_zero, Option.some.injEq] at ho
                  subst ho
                  obtain ⟨u5, e5⟩ := hdep ⟨5, .data⟩ (by simp) rfl _ 80 rfl rfl
                  rw [show vals 5 = .tuple #[.agg (ov A), .bool true] from e5 rfl rfl x (KeptP.refl _ _)] at u5
                  unfold Oper.wp
                  simp [execOp, go_sem, u5]
                  exact cameF _ rfl (Below.refl _ _) (fun _ _ => rfl)
                | 8, ho, hA, hK => cases hA
                | 9, ho, hA, hK => cases hK
                | 10, ho, hA, hK =>
                  simp only [List.getElem?_cons_succ, List.getElem?_cons_zero, Option.some.injEq] at ho
                  subst ho
                  obtain ⟨u7, e7⟩ := hdep ⟨7, .data⟩ (by simp) rfl _ 87 rfl rfl
                  rw [show vals 7 = .bool true from e7 rfl rfl x (KeptP.refl _ _)] at u7
                  unfold Oper.wp
                  simp [execOp, go_sem, u7]
                  exact cameF _ rfl (Below.refl _ _) (fun _ _ => rfl)
                | m + 11, ho, hA, hK => simp at ho
              · intro i o t n ho hA q x
                match i, ho, hA with
                | 8, ho, hA =>
                  cases hA
                  simp only [List.getElem?_cons_succ, List.getElem?_cons_zero, Option.some.injEq] at ho
                  subst ho
                  unfold Oper.wp
                  simp [execOp, go_sem]
                  exact ⟨_, rfl, rfl, rfl⟩
                | 0, ho, hA | 1, ho, hA | 2, ho, hA | 3, ho, hA | 4, ho, hA | 5, ho, hA | 6, ho, hA | 7, ho, hA | 9, ho, hA | 10, ho, hA => cases hA
                | m + 11, ho, hA => cases hA
              · intro i o of os_ f s n g' t df ds sv ho hK hA hf hs hdf hds q x cs0 sf ss hR hg hn
                match i, ho, hK with
                | 9, ho, hK =>
                  cases hK
                  cases hA
                  simp only [List.getElem?_cons_succ, List.getElem?_cons_zero, Option.some.injEq] at ho hf hs
                  subst ho hf hs
                  cases hdf
                  cases hds
                  obtain rfl : sv = .agg (ov A) := hR
                  exact wp_store_row _ _ _ rfl g' ((ov A)) (by simp [Act.eval, sf]) (by simp [Act.eval, ss]) _ cs0 hg (o_size A) (by rw [hn]; rfl) (by simp [Value.oneCell', ov]) ⟨undef, (ov A), rfl, rfl, rfl, rfl⟩
                | 0, ho, hK | 1, ho, hK | 2, ho, hK | 3, ho, hK | 4, ho, hK | 5, ho, hK | 6, ho, hK | 7, ho, hK | 8, ho, hK | 10, ho, hK => cases hK
                | m + 11, ho, hK => cases hK
              · intro vals w5 hb5 hR5 hBk
                obtain ⟨gZ, csZ, qZ, _, hrZ, _, hstZ⟩ := hBk 8 _ _ (by decide) rfl
                have v6 : vals 6 = .agg (ov A) := hR5 6 (by decide) rfl rfl
                have v10 : vals 10 = .bool true := hR5 10 (by decide) rfl rfl
                have eZ : csZ = ov A := Value.agg.inj ((hstZ 9 6 (by decide) rfl).symm.trans v6)
                subst eZ
                have rZ : RowAt gZ (ov A) 24 w5 := hrZ
                simp only [putAll, qZ, v10, List.setIfInBounds_toArray, List.set_cons_succ, List.set_cons_zero]
                clear hrZ hR5 hBk hstZ v6 v10 qZ
                replace hB := bgo hB hb5
                replace rA := rA.later hb5
                have hq := eq_O A
                go_upto_region 13 with fail
                refine wp_region_cls0 ?_
                repeat (first | go_big_quiet_skip | (go_big_quiet_want; first | (refine quiet_load_in _ _ rfl rfl rZ.in.cls Tryd.underlying24 rfl (o_size A) ?_; simp only [Act.put, List.setIfInBounds_toArray, List.set_cons_succ, List.set_cons_zero]; go_big_quiet_on) | (refine quiet_load_in _ _ rfl rfl rA.in.cls Tryd.underlying24 rfl (o_size A) ?_; simp only [Act.put, List.setIfInBounds_toArray, List.set_cons_succ, List.set_cons_zero]; go_big_quiet_on) | (go_big_quiet_op; first | go_big_quiet_on | go_big_quiet_call ((fail)))))
                refine wpQuiet_nil ?_
                rintro w1 ⟨s1, e1⟩
                have hb1 := wOf_below s1
                rw [← e1] at hb1
                clear e1 s1
                replace hB := bgo hB hb1
                clear hb1
                go_wp2
                go_roundw
                case rel => exact ⟨k + 1, by go_num, by omega, hB⟩
                case measure => simp [intOf]; omega
    · have p1 : ¬ (k : Int) < (m.length : Int) := by omega
      go_wp2_with (go_at_call 13; refine (HW.out _).mono ?_; rintro r w9 ⟨rfl, hb9⟩)
      go_ret
      exact ⟨rfl, bgo hB hb9⟩
  · have p0 : ¬ (k : Int) < (l.length : Int) := by omega
    go_wp2_with (go_at_call 13; refine (HW.out _).mono ?_; rintro r w9 ⟨rfl, hb9⟩)
    go_ret
    exact ⟨rfl, bgo hB hb9⟩
end Go.Proofs.YtbcilnbjhjepgabDoor
