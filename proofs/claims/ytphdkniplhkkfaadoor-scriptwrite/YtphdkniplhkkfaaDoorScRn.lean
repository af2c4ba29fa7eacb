
/-
  barrowref05.Runes: a text's characters, or that it is no UTF-8.
-/
import Derived.Test.YtphdkniplhkkfaaDoorSc0
import Derived.LoopN
namespace Go.Proofs.YtphdkniplhkkfaaDoor
open Go.RowKit Go.Extern.Stop Go.Stop Go.Extern
open Go.Lib (decodeL decodeN validD validD_step decodeL_N)
set_option maxRecDepth 100000

theorem bad_of {l : List UInt8} (hne : l ≠ []) (h : decodeL l = (65533, 1)) : validD l = false := by
  rw [validD_step l hne, h, if_pos ⟨rfl, rfl⟩]
theorem good_of {l : List UInt8} (hne : l ≠ []) {c n : Nat} (h : decodeL l = (c, n)) (hc : ¬ (c = 65533 ∧ n = 1)) : validD l = validD (l.drop n) ∧ rn l = (c : Int) :: rn (l.drop n) := by
  have h1 := validD_step l hne
  have h2 := rn_step l hne
  rw [h] at h1 h2
  rw [if_neg hc] at h1
  exact ⟨h1, h2⟩
theorem so_r (w : World) (z : Int) : So 1 (.slice (some ⟨w.heap.size, 0, none⟩) 1 1) [z].length ([z].map (Value.int .i32)) (w.alloc (.cells #[.int .i32 z] 21)) := so_new w 21 1 #[.int .i32 z] rfl _ rfl
theorem so_r2 (w : World) (o : Obj) (z : Int) : So 1 (.slice (some ⟨w.heap.size + 1, 0, none⟩) 1 1) [z].length ([z].map (Value.int .i32)) ((w.alloc o).alloc (.cells #[.int .i32 z] 21)) := by
  have := so_r (w.alloc o) z
  rwa [World.size_alloc] at this
/-- What Runes answers. -/
def RnR (w : World) (s : ByteArray) (e : Ending) (w' : World) : Prop := ((∃ v, validD s.data.toList = true ∧ e = .returned (.tuple #[v, .bool true]) ∧ RwR v (rn s.data.toList) w' ∧ (∀ k, v.ownBlock = some k → w.heap.size ≤ k)) ∨ (validD s.data.toList = false ∧ e = .returned (.tuple #[.slice none 0 0, .bool false]))) ∧ Below w.heap.size w w'
theorem RnR.bad {w w' : World} {s : ByteArray} (h : validD s.data.toList = false) (hb : Below w.heap.size w w') : RnR w s (.returned (.tuple #[.slice none 0 0, .bool false])) w' := ⟨.inr ⟨h, rfl⟩, hb⟩
/-- The bytes of a text from a place on. -/
structure By (s : ByteArray) (i : Nat) (b0 b1 b2 b3 : Nat) : Prop where
  ne : s.data.toList.drop i ≠ []
  dec : decodeL (s.data.toList.drop i) = decodeN (s.size - i) b0 b1 b2 b3
  at0 : ∀ h : i < s.size, (s[i]'h).toNat = b0
  at1 : ∀ h : i + 1 < s.size, (s[i + 1]'h).toNat = b1
  at2 : ∀ h : i + 2 < s.size, (s[i + 2]'h).toNat = b2
  at3 : ∀ h : i + 3 < s.size, (s[i + 3]'h).toNat = b3
  lt : b0 < 256 ∧ b1 < 256 ∧ b2 < 256 ∧ b3 < 256
theorem byte_at (s : ByteArray) (i k : Nat) (h : i + k < s.size) : ((s.data.toList.drop i).getD k 0).toNat = (s[i + k]'h).toNat := by
  have h1 : i + k < s.data.toList.length := by rw [Array.length_toList]; exact h
  rw [List.getD, List.getElem?_drop, List.getElem?_eq_getElem h1]
  rfl
theorem by_of (s : ByteArray) (i : Nat) (hi : i < s.size) : ∃ b0 b1 b2 b3, By s i b0 b1 b2 b3 := by
  have hl : s.data.toList.length = s.size := by rw [Array.length_toList]; rfl
  refine ⟨_, _, _, _, ⟨?_, ?_, fun h => (byte_at s i 0 h).symm, fun h => (byte_at s i 1 h).symm, fun h => (byte_at s i 2 h).symm, fun h => (byte_at s i 3 h).symm, UInt8.toNat_lt _, UInt8.toNat_lt _, UInt8.toNat_lt _, UInt8.toNat_lt _⟩⟩
  · intro e
    have := congrArg List.length e
    rw [List.length_drop, hl] at this
    simp at this
    omega
  · rw [decodeL_N, List.length_drop, hl]

set_option maxHeartbeats 8000000 in
theorem runes_is (w : World) (s : ByteArray) (hs : s.size ≤ 1000000000) :
    Calls Tryd.prog 20 #[.string s] w fun e w' => RnR w s e w' := by
  go_enter Tryd.func20, Tryd.ntmps20
  go_wp2
  go_loopw [4, 5] (fun ov iv wr => ∃ (i : Nat) (rs : List Int), iv = .int .i64 (i : Int) ∧ i ≤ s.size ∧ RwR ov rs wr ∧ (∀ k, ov.ownBlock = some k → w.heap.size ≤ k) ∧ rs ++ rn (s.data.toList.drop i) = rn s.data.toList ∧ validD (s.data.toList.drop i) = validD s.data.toList ∧ rs.length ≤ i ∧ Ch (fun _ => False) w wr) (fun _ iv _ => s.size - (intOf iv).toNat)
  case atStart => exact ⟨0, [], rfl, Nat.zero_le _, RwR.nil _, (fun k hk => by cases hk), by rw [List.drop_zero]; rfl, by rw [List.drop_zero], Nat.le_refl _, Ch.refl _ _⟩
  case round =>
    obtain ⟨i, rs, rfl, hi, hR, hO, hrn, hvd, hrl, hC⟩ := hrel
    have HI := hid_of' (And.intro hR (And.intro hO (And.intro hrn (And.intro hvd (And.intro hrl hC)))))
    obtain ⟨oa, oc, hov, _⟩ := hR.form
    have HW := hid_of' (hC.none (fun _ _ q => q))
    clear hR hO hrn hvd hrl hC
    by_cases hlt : i < s.size
    · have hlti : (i : Int) < (s.size : Int) := by omega
      obtain ⟨b0, b1, b2, b3, hB⟩ := by_of s i hlt
      have HG := hid_of' hB
      have a0 := hB.at0 hlt
      obtain ⟨l0, l1, l2, l3⟩ := hB.lt
      clear hB
      generalize List.length _ = on at hov
      subst hov
      by_cases g1 : b0 < 128
      · have x1 : (b0 : Int) < 128 := by omega
        have x2 : ¬ (128 : Int) ≤ (b0 : Int) := by omega
        have x3 : ¬ (192 : Int) ≤ (b0 : Int) := by omega
        have x4 : ¬ (224 : Int) ≤ (b0 : Int) := by omega
        have x5 : ¬ (240 : Int) ≤ (b0 : Int) := by omega
        go_upto_region 14 with fail
        have hsz2 : ¬ (s.size : Int) < (i : Int) + 1 := by omega
        clear x1 x2 x3 x4 x5
        generalize hz : (b0 : Int) = z
        have HZ := hid_of' (And.intro hz g1)
        have x1 : z < 128 := by omega
        have x2 : (0 : Int) ≤ z := by omega
        clear hz
        have hL : (0 : Int) ≤ z := by omega
        have hM : z ≤ 1114111 := by omega
        have hS : z < 55296 := by omega
        have HS := hid_of' (And.intro ((HI.out.1.later (below_one wr (.cells #[.int .i64 0, .int .i64 0, .int .i64 128, .int .i64 2048, .int .i64 65536] 52))).later (below_one _ (.cells #[.int .i32 z] 21))) (so_r2 wr (.cells #[.int .i64 0, .int .i64 0, .int .i64 128, .int .i64 2048, .int .i64 65536] 52) z))
        go_wp2
        clear hsz2
        refine wp_loop_rounds 6 ?_
        rw [rounds_succ]
        go_upto_region 27 with (at_builtin; refine wpL_appR (m := [z]) rfl _ _ rfl rfl rfl HS.out.1 HS.out.2 (by have := HI.out.2.2.2.2.1; show _ + 1 ≤ _; omega) ?_; intro u6 w6 q1 q2 q3)
        clear hL hM hS x1 x2
        go_wp2
        go_roundw
        case rel =>
          have hz := HZ.out.1
          obtain ⟨c, hce⟩ : ∃ c : Nat, z = (c : Int) := ⟨(z).toNat, by omega⟩
          have hdec : decodeL (s.data.toList.drop i) = (c, 1) := by
            refine HG.out.dec.trans ?_
            unfold decodeN
            repeat' split
            all_goals first | (exfalso; omega) | (refine Prod.ext ?_ rfl; dsimp only; omega)
          obtain ⟨hv, hr⟩ := good_of HG.out.ne hdec (by omega)
          obtain ⟨e1, e2, e3, e4, e5, e6⟩ := HI.out
          rw [List.drop_drop] at hv hr
          refine ⟨i + 1, rs ++ [(c : Int)], by go_num, by omega, ?_, ?_, ?_, ?_, ?_, ?_⟩
          · rw [← hce]
            exact q1
          · exact fun k hk => (q3 k hk).elim (fun q => e2 k q) (fun q => by have := e6.size; simp only [World.size_alloc] at q; omega)
          · rw [List.append_assoc, List.cons_append, List.nil_append, ← hr]
            exact e3
          · rw [← hv]
            exact e4
          · rw [List.length_append]
            show _ + 1 ≤ _
            omega
          · exact ((e6.later (below_one wr _)).later (below_one _ _)).own q2 e2
        case measure => simp [intOf]; omega
      by_cases g2 : b0 < 192 ∨ 248 ≤ b0
      · rcases g2 with g2 | g2
        · have x2 : (128 : Int) ≤ (b0 : Int) := by omega
          have x3 : ¬ (192 : Int) ≤ (b0 : Int) := by omega
          have x4 : ¬ (224 : Int) ≤ (b0 : Int) := by omega
          have x5 : ¬ (240 : Int) ≤ (b0 : Int) := by omega
          go_wp2
          (go_ret2
           refine RnR.bad ?_ (HW.out)
           rw [← HI.out.2.2.2.1]
           refine bad_of HG.out.ne (HG.out.dec.trans ?_)
           unfold decodeN
           repeat' split
           all_goals first | rfl | (exfalso; omega))
        · have x1 : (240 : Int) ≤ (b0 : Int) := by omega
          have x2 : ¬ (b0 : Int) < 248 := by omega
          have x3 : ¬ (b0 : Int) < 240 := by omega
          have x4 : ¬ (b0 : Int) < 224 := by omega
          have x5 : (224 : Int) ≤ (b0 : Int) := by omega
          have x6 : (192 : Int) ≤ (b0 : Int) := by omega
          have x7 : (128 : Int) ≤ (b0 : Int) := by omega
          go_wp2
          (go_ret2
           refine RnR.bad ?_ (HW.out)
           rw [← HI.out.2.2.2.1]
           refine bad_of HG.out.ne (HG.out.dec.trans ?_)
           unfold decodeN
           repeat' split
           all_goals first | rfl | (exfalso; omega))
      by_cases g4 : b0 < 224
      · have x1 : (192 : Int) ≤ (b0 : Int) := by omega
        have x2 : (b0 : Int) < 224 := by omega
        have x3 : ¬ (224 : Int) ≤ (b0 : Int) := by omega
        have x4 : ¬ (240 : Int) ≤ (b0 : Int) := by omega
        go_upto_region 14 with fail
        by_cases hsz : s.size < i + 2
        · have hsz2 : (s.size : Int) < (i : Int) + 2 := by omega
          go_wp2
          (go_ret2
           refine RnR.bad ?_ (HW.out)
           rw [← HI.out.2.2.2.1]
           refine bad_of HG.out.ne (HG.out.dec.trans ?_)
           unfold decodeN
           repeat' split
           all_goals first | rfl | (exfalso; omega))
        · have hsz2 : ¬ (s.size : Int) < (i : Int) + 2 := by omega
          have a1 := HG.out.at1 (by omega)
          by_cases k1 : b1 < 128
          · have k1i : (b1 : Int) < 128 := by omega
            go_wp2
            refine wp_loop_rounds 6 ?_
            repeat (rw [rounds_succ]; go_wp2)
            all_goals (try (exfalso; omega))
            (go_ret2
             refine RnR.bad ?_ (HW.out)
             rw [← HI.out.2.2.2.1]
             refine bad_of HG.out.ne (HG.out.dec.trans ?_)
             unfold decodeN
             repeat' split
             all_goals first | rfl | (exfalso; omega))
          have k1a : ¬ (b1 : Int) < 128 := by omega
          by_cases k1 : 192 ≤ b1
          · have k1i : (192 : Int) ≤ (b1 : Int) := by omega
            go_wp2
            refine wp_loop_rounds 6 ?_
            repeat (rw [rounds_succ]; go_wp2)
            all_goals (try (exfalso; omega))
            (go_ret2
             refine RnR.bad ?_ (HW.out)
             rw [← HI.out.2.2.2.1]
             refine bad_of HG.out.ne (HG.out.dec.trans ?_)
             unfold decodeN
             repeat' split
             all_goals first | rfl | (exfalso; omega))
          have k1b : ¬ (192 : Int) ≤ (b1 : Int) := by omega
          by_cases hL : ¬ (128 : Int) ≤ (64 * ((b0 : Int) - 192) + (b1 : Int) - 128)
          · skip
            go_wp2
            refine wp_loop_rounds 6 ?_
            repeat (rw [rounds_succ]; go_wp2)
            (go_ret2
             refine RnR.bad ?_ ((bgo HW.out (below_one wr _)))
             rw [← HI.out.2.2.2.1]
             refine bad_of HG.out.ne (HG.out.dec.trans ?_)
             unfold decodeN
             repeat' split
             all_goals first | rfl | (exfalso; omega))
          replace hL := Classical.not_not.1 hL
          have hM : (64 * ((b0 : Int) - 192) + (b1 : Int) - 128) ≤ 1114111 := by omega
          have hS : (64 * ((b0 : Int) - 192) + (b1 : Int) - 128) < 55296 := by omega
          have HS := hid_of' (And.intro ((HI.out.1.later (below_one wr (.cells #[.int .i64 0, .int .i64 0, .int .i64 128, .int .i64 2048, .int .i64 65536] 52))).later (below_one _ (.cells #[.int .i32 (64 * ((b0 : Int) - 192) + (b1 : Int) - 128)] 21))) (so_r2 wr (.cells #[.int .i64 0, .int .i64 0, .int .i64 128, .int .i64 2048, .int .i64 65536] 52) (64 * ((b0 : Int) - 192) + (b1 : Int) - 128)))
          go_wp2
          refine wp_loop_rounds 6 ?_
          repeat (rw [rounds_succ]; go_wp2_with (at_builtin; refine wpL_appR (m := [(64 * ((b0 : Int) - 192) + (b1 : Int) - 128)]) rfl _ _ rfl rfl rfl HS.out.1 HS.out.2 (by have := HI.out.2.2.2.2.1; show _ + 1 ≤ _; omega) ?_; intro u6 w6 q1 q2 q3))
          go_roundw
          case rel =>
            obtain ⟨c, hce⟩ : ∃ c : Nat, (64 * ((b0 : Int) - 192) + (b1 : Int) - 128) = (c : Int) := ⟨((64 * ((b0 : Int) - 192) + (b1 : Int) - 128)).toNat, by omega⟩
            have hdec : decodeL (s.data.toList.drop i) = (c, 2) := by
              refine HG.out.dec.trans ?_
              unfold decodeN
              repeat' split
              all_goals first | (exfalso; omega) | (refine Prod.ext ?_ rfl; dsimp only; omega)
            obtain ⟨hv, hr⟩ := good_of HG.out.ne hdec (by omega)
            obtain ⟨e1, e2, e3, e4, e5, e6⟩ := HI.out
            rw [List.drop_drop] at hv hr
            refine ⟨i + 2, rs ++ [(c : Int)], by go_num, by omega, ?_, ?_, ?_, ?_, ?_, ?_⟩
            · rw [← hce]
              exact q1
            · exact fun k hk => (q3 k hk).elim (fun q => e2 k q) (fun q => by have := e6.size; simp only [World.size_alloc] at q; omega)
            · rw [List.append_assoc, List.cons_append, List.nil_append, ← hr]
              exact e3
            · rw [← hv]
              exact e4
            · rw [List.length_append]
              show _ + 1 ≤ _
              omega
            · exact ((e6.later (below_one wr _)).later (below_one _ _)).own q2 e2
          case measure => simp [intOf]; omega
      by_cases g5 : b0 < 240
      · have x1 : (224 : Int) ≤ (b0 : Int) := by omega
        have x2 : (b0 : Int) < 240 := by omega
        have x4 : ¬ (240 : Int) ≤ (b0 : Int) := by omega
        go_upto_region 14 with fail
        by_cases hsz : s.size < i + 3
        · have hsz2 : (s.size : Int) < (i : Int) + 3 := by omega
          go_wp2
          (go_ret2
           refine RnR.bad ?_ (HW.out)
           rw [← HI.out.2.2.2.1]
           refine bad_of HG.out.ne (HG.out.dec.trans ?_)
           unfold decodeN
           repeat' split
           all_goals first | rfl | (exfalso; omega))
        · have hsz2 : ¬ (s.size : Int) < (i : Int) + 3 := by omega
          have a1 := HG.out.at1 (by omega)
          have a2 := HG.out.at2 (by omega)
          by_cases k1 : b1 < 128
          · have k1i : (b1 : Int) < 128 := by omega
            go_wp2
            refine wp_loop_rounds 6 ?_
            repeat (rw [rounds_succ]; go_wp2)
            all_goals (try (exfalso; omega))
            (go_ret2
             refine RnR.bad ?_ (HW.out)
             rw [← HI.out.2.2.2.1]
             refine bad_of HG.out.ne (HG.out.dec.trans ?_)
             unfold decodeN
             repeat' split
             all_goals first | rfl | (exfalso; omega))
          have k1a : ¬ (b1 : Int) < 128 := by omega
          by_cases k1 : 192 ≤ b1
          · have k1i : (192 : Int) ≤ (b1 : Int) := by omega
            go_wp2
            refine wp_loop_rounds 6 ?_
            repeat (rw [rounds_succ]; go_wp2)
            all_goals (try (exfalso; omega))
            (go_ret2
             refine RnR.bad ?_ (HW.out)
             rw [← HI.out.2.2.2.1]
             refine bad_of HG.out.ne (HG.out.dec.trans ?_)
             unfold decodeN
             repeat' split
             all_goals first | rfl | (exfalso; omega))
          have k1b : ¬ (192 : Int) ≤ (b1 : Int) := by omega
          by_cases k2 : b2 < 128
          · have k2i : (b2 : Int) < 128 := by omega
            go_wp2
            refine wp_loop_rounds 6 ?_
            repeat (rw [rounds_succ]; go_wp2)
            all_goals (try (exfalso; omega))
            (go_ret2
             refine RnR.bad ?_ (HW.out)
             rw [← HI.out.2.2.2.1]
             refine bad_of HG.out.ne (HG.out.dec.trans ?_)
             unfold decodeN
             repeat' split
             all_goals first | rfl | (exfalso; omega))
          have k2a : ¬ (b2 : Int) < 128 := by omega
          by_cases k2 : 192 ≤ b2
          · have k2i : (192 : Int) ≤ (b2 : Int) := by omega
            go_wp2
            refine wp_loop_rounds 6 ?_
            repeat (rw [rounds_succ]; go_wp2)
            all_goals (try (exfalso; omega))
            (go_ret2
             refine RnR.bad ?_ (HW.out)
             rw [← HI.out.2.2.2.1]
             refine bad_of HG.out.ne (HG.out.dec.trans ?_)
             unfold decodeN
             repeat' split
             all_goals first | rfl | (exfalso; omega))
          have k2b : ¬ (192 : Int) ≤ (b2 : Int) := by omega
          by_cases hL : ¬ (2048 : Int) ≤ (64 * (64 * ((b0 : Int) - 224) + (b1 : Int) - 128) + (b2 : Int) - 128)
          · skip
            go_wp2
            refine wp_loop_rounds 6 ?_
            repeat (rw [rounds_succ]; go_wp2)
            (go_ret2
             refine RnR.bad ?_ ((bgo HW.out (below_one wr _)))
             rw [← HI.out.2.2.2.1]
             refine bad_of HG.out.ne (HG.out.dec.trans ?_)
             unfold decodeN
             repeat' split
             all_goals first | rfl | (exfalso; omega))
          replace hL := Classical.not_not.1 hL
          have hM : (64 * (64 * ((b0 : Int) - 224) + (b1 : Int) - 128) + (b2 : Int) - 128) ≤ 1114111 := by omega
          by_cases hS : (64 * (64 * ((b0 : Int) - 224) + (b1 : Int) - 128) + (b2 : Int) - 128) < 55296
          · skip
            have HS := hid_of' (And.intro ((HI.out.1.later (below_one wr (.cells #[.int .i64 0, .int .i64 0, .int .i64 128, .int .i64 2048, .int .i64 65536] 52))).later (below_one _ (.cells #[.int .i32 (64 * (64 * ((b0 : Int) - 224) + (b1 : Int) - 128) + (b2 : Int) - 128)] 21))) (so_r2 wr (.cells #[.int .i64 0, .int .i64 0, .int .i64 128, .int .i64 2048, .int .i64 65536] 52) (64 * (64 * ((b0 : Int) - 224) + (b1 : Int) - 128) + (b2 : Int) - 128)))
            go_wp2
            refine wp_loop_rounds 6 ?_
            repeat (rw [rounds_succ]; go_wp2_with (at_builtin; refine wpL_appR (m := [(64 * (64 * ((b0 : Int) - 224) + (b1 : Int) - 128) + (b2 : Int) - 128)]) rfl _ _ rfl rfl rfl HS.out.1 HS.out.2 (by have := HI.out.2.2.2.2.1; show _ + 1 ≤ _; omega) ?_; intro u6 w6 q1 q2 q3))
            go_roundw
            case rel =>
              obtain ⟨c, hce⟩ : ∃ c : Nat, (64 * (64 * ((b0 : Int) - 224) + (b1 : Int) - 128) + (b2 : Int) - 128) = (c : Int) := ⟨((64 * (64 * ((b0 : Int) - 224) + (b1 : Int) - 128) + (b2 : Int) - 128)).toNat, by omega⟩
              have hdec : decodeL (s.data.toList.drop i) = (c, 3) := by
                refine HG.out.dec.trans ?_
                unfold decodeN
                repeat' split
                all_goals first | (exfalso; omega) | (refine Prod.ext ?_ rfl; dsimp only; omega)
              obtain ⟨hv, hr⟩ := good_of HG.out.ne hdec (by omega)
              obtain ⟨e1, e2, e3, e4, e5, e6⟩ := HI.out
              rw [List.drop_drop] at hv hr
              refine ⟨i + 3, rs ++ [(c : Int)], by go_num, by omega, ?_, ?_, ?_, ?_, ?_, ?_⟩
              · rw [← hce]
                exact q1
              · exact fun k hk => (q3 k hk).elim (fun q => e2 k q) (fun q => by have := e6.size; simp only [World.size_alloc] at q; omega)
              · rw [List.append_assoc, List.cons_append, List.nil_append, ← hr]
                exact e3
              · rw [← hv]
                exact e4
              · rw [List.length_append]
                show _ + 1 ≤ _
                omega
              · exact ((e6.later (below_one wr _)).later (below_one _ _)).own q2 e2
            case measure => simp [intOf]; omega
          by_cases hT : (64 * (64 * ((b0 : Int) - 224) + (b1 : Int) - 128) + (b2 : Int) - 128) ≤ 57343
          · skip
            go_wp2
            refine wp_loop_rounds 6 ?_
            repeat (rw [rounds_succ]; go_wp2)
            (go_ret2
             refine RnR.bad ?_ ((bgo HW.out (below_one wr _)))
             rw [← HI.out.2.2.2.1]
             refine bad_of HG.out.ne (HG.out.dec.trans ?_)
             unfold decodeN
             repeat' split
             all_goals first | rfl | (exfalso; omega))
          have HS := hid_of' (And.intro ((HI.out.1.later (below_one wr (.cells #[.int .i64 0, .int .i64 0, .int .i64 128, .int .i64 2048, .int .i64 65536] 52))).later (below_one _ (.cells #[.int .i32 (64 * (64 * ((b0 : Int) - 224) + (b1 : Int) - 128) + (b2 : Int) - 128)] 21))) (so_r2 wr (.cells #[.int .i64 0, .int .i64 0, .int .i64 128, .int .i64 2048, .int .i64 65536] 52) (64 * (64 * ((b0 : Int) - 224) + (b1 : Int) - 128) + (b2 : Int) - 128)))
          go_wp2
          refine wp_loop_rounds 6 ?_
          repeat (rw [rounds_succ]; go_wp2_with (at_builtin; refine wpL_appR (m := [(64 * (64 * ((b0 : Int) - 224) + (b1 : Int) - 128) + (b2 : Int) - 128)]) rfl _ _ rfl rfl rfl HS.out.1 HS.out.2 (by have := HI.out.2.2.2.2.1; show _ + 1 ≤ _; omega) ?_; intro u6 w6 q1 q2 q3))
          go_roundw
          case rel =>
            obtain ⟨c, hce⟩ : ∃ c : Nat, (64 * (64 * ((b0 : Int) - 224) + (b1 : Int) - 128) + (b2 : Int) - 128) = (c : Int) := ⟨((64 * (64 * ((b0 : Int) - 224) + (b1 : Int) - 128) + (b2 : Int) - 128)).toNat, by omega⟩
            have hdec : decodeL (s.data.toList.drop i) = (c, 3) := by
              refine HG.out.dec.trans ?_
              unfold decodeN
              repeat' split
              all_goals first | (exfalso; omega) | (refine Prod.ext ?_ rfl; dsimp only; omega)
            obtain ⟨hv, hr⟩ := good_of HG.out.ne hdec (by omega)
            obtain ⟨e1, e2, e3, e4, e5, e6⟩ := HI.out
            rw [List.drop_drop] at hv hr
            refine ⟨i + 3, rs ++ [(c : Int)], by go_num, by omega, ?_, ?_, ?_, ?_, ?_, ?_⟩
            · rw [← hce]
              exact q1
            · exact fun k hk => (q3 k hk).elim (fun q => e2 k q) (fun q => by have := e6.size; simp only [World.size_alloc] at q; omega)
            · rw [List.append_assoc, List.cons_append, List.nil_append, ← hr]
              exact e3
            · rw [← hv]
              exact e4
            · rw [List.length_append]
              show _ + 1 ≤ _
              omega
            · exact ((e6.later (below_one wr _)).later (below_one _ _)).own q2 e2
          case measure => simp [intOf]; omega
      · have x1 : (240 : Int) ≤ (b0 : Int) := by omega
        have x2 : (b0 : Int) < 248 := by omega
        go_upto_region 14 with fail
        by_cases hsz : s.size < i + 4
        · have hsz2 : (s.size : Int) < (i : Int) + 4 := by omega
          go_wp2
          (go_ret2
           refine RnR.bad ?_ (HW.out)
           rw [← HI.out.2.2.2.1]
           refine bad_of HG.out.ne (HG.out.dec.trans ?_)
           unfold decodeN
           repeat' split
           all_goals first | rfl | (exfalso; omega))
        · have hsz2 : ¬ (s.size : Int) < (i : Int) + 4 := by omega
          have a1 := HG.out.at1 (by omega)
          have a2 := HG.out.at2 (by omega)
          have a3 := HG.out.at3 (by omega)
          by_cases k1 : b1 < 128
          · have k1i : (b1 : Int) < 128 := by omega
            go_wp2
            refine wp_loop_rounds 6 ?_
            repeat (rw [rounds_succ]; go_wp2)
            all_goals (try (exfalso; omega))
            (go_ret2
             refine RnR.bad ?_ (HW.out)
             rw [← HI.out.2.2.2.1]
             refine bad_of HG.out.ne (HG.out.dec.trans ?_)
             unfold decodeN
             repeat' split
             all_goals first | rfl | (exfalso; omega))
          have k1a : ¬ (b1 : Int) < 128 := by omega
          by_cases k1 : 192 ≤ b1
          · have k1i : (192 : Int) ≤ (b1 : Int) := by omega
            go_wp2
            refine wp_loop_rounds 6 ?_
            repeat (rw [rounds_succ]; go_wp2)
            all_goals (try (exfalso; omega))
            (go_ret2
             refine RnR.bad ?_ (HW.out)
             rw [← HI.out.2.2.2.1]
             refine bad_of HG.out.ne (HG.out.dec.trans ?_)
             unfold decodeN
             repeat' split
             all_goals first | rfl | (exfalso; omega))
          have k1b : ¬ (192 : Int) ≤ (b1 : Int) := by omega
          by_cases k2 : b2 < 128
          · have k2i : (b2 : Int) < 128 := by omega
            go_wp2
            refine wp_loop_rounds 6 ?_
            repeat (rw [rounds_succ]; go_wp2)
            all_goals (try (exfalso; omega))
            (go_ret2
             refine RnR.bad ?_ (HW.out)
             rw [← HI.out.2.2.2.1]
             refine bad_of HG.out.ne (HG.out.dec.trans ?_)
             unfold decodeN
             repeat' split
             all_goals first | rfl | (exfalso; omega))
          have k2a : ¬ (b2 : Int) < 128 := by omega
          by_cases k2 : 192 ≤ b2
          · have k2i : (192 : Int) ≤ (b2 : Int) := by omega
            go_wp2
            refine wp_loop_rounds 6 ?_
            repeat (rw [rounds_succ]; go_wp2)
            all_goals (try (exfalso; omega))
            (go_ret2
             refine RnR.bad ?_ (HW.out)
             rw [← HI.out.2.2.2.1]
             refine bad_of HG.out.ne (HG.out.dec.trans ?_)
             unfold decodeN
             repeat' split
             all_goals first | rfl | (exfalso; omega))
          have k2b : ¬ (192 : Int) ≤ (b2 : Int) := by omega
          by_cases k3 : b3 < 128
          · have k3i : (b3 : Int) < 128 := by omega
            go_wp2
            refine wp_loop_rounds 6 ?_
            repeat (rw [rounds_succ]; go_wp2)
            all_goals (try (exfalso; omega))
            (go_ret2
             refine RnR.bad ?_ (HW.out)
             rw [← HI.out.2.2.2.1]
             refine bad_of HG.out.ne (HG.out.dec.trans ?_)
             unfold decodeN
             repeat' split
             all_goals first | rfl | (exfalso; omega))
          have k3a : ¬ (b3 : Int) < 128 := by omega
          by_cases k3 : 192 ≤ b3
          · have k3i : (192 : Int) ≤ (b3 : Int) := by omega
            go_wp2
            refine wp_loop_rounds 6 ?_
            repeat (rw [rounds_succ]; go_wp2)
            all_goals (try (exfalso; omega))
            (go_ret2
             refine RnR.bad ?_ (HW.out)
             rw [← HI.out.2.2.2.1]
             refine bad_of HG.out.ne (HG.out.dec.trans ?_)
             unfold decodeN
             repeat' split
             all_goals first | rfl | (exfalso; omega))
          have k3b : ¬ (192 : Int) ≤ (b3 : Int) := by omega
          by_cases hL : ¬ (65536 : Int) ≤ (64 * (64 * (64 * ((b0 : Int) - 240) + (b1 : Int) - 128) + (b2 : Int) - 128) + (b3 : Int) - 128)
          · skip
            go_wp2
            refine wp_loop_rounds 6 ?_
            repeat (rw [rounds_succ]; go_wp2)
            (go_ret2
             refine RnR.bad ?_ ((bgo HW.out (below_one wr _)))
             rw [← HI.out.2.2.2.1]
             refine bad_of HG.out.ne (HG.out.dec.trans ?_)
             unfold decodeN
             repeat' split
             all_goals first | rfl | (exfalso; omega))
          replace hL := Classical.not_not.1 hL
          by_cases hM : ¬ (64 * (64 * (64 * ((b0 : Int) - 240) + (b1 : Int) - 128) + (b2 : Int) - 128) + (b3 : Int) - 128) ≤ 1114111
          · skip
            go_wp2
            refine wp_loop_rounds 6 ?_
            repeat (rw [rounds_succ]; go_wp2)
            (go_ret2
             refine RnR.bad ?_ ((bgo HW.out (below_one wr _)))
             rw [← HI.out.2.2.2.1]
             refine bad_of HG.out.ne (HG.out.dec.trans ?_)
             unfold decodeN
             repeat' split
             all_goals first | rfl | (exfalso; omega))
          replace hM := Classical.not_not.1 hM
          have hS : ¬ (64 * (64 * (64 * ((b0 : Int) - 240) + (b1 : Int) - 128) + (b2 : Int) - 128) + (b3 : Int) - 128) < 55296 := by omega
          have hT : ¬ (64 * (64 * (64 * ((b0 : Int) - 240) + (b1 : Int) - 128) + (b2 : Int) - 128) + (b3 : Int) - 128) ≤ 57343 := by omega
          have HS := hid_of' (And.intro ((HI.out.1.later (below_one wr (.cells #[.int .i64 0, .int .i64 0, .int .i64 128, .int .i64 2048, .int .i64 65536] 52))).later (below_one _ (.cells #[.int .i32 (64 * (64 * (64 * ((b0 : Int) - 240) + (b1 : Int) - 128) + (b2 : Int) - 128) + (b3 : Int) - 128)] 21))) (so_r2 wr (.cells #[.int .i64 0, .int .i64 0, .int .i64 128, .int .i64 2048, .int .i64 65536] 52) (64 * (64 * (64 * ((b0 : Int) - 240) + (b1 : Int) - 128) + (b2 : Int) - 128) + (b3 : Int) - 128)))
          go_wp2
          refine wp_loop_rounds 6 ?_
          repeat (rw [rounds_succ]; go_wp2_with (at_builtin; refine wpL_appR (m := [(64 * (64 * (64 * ((b0 : Int) - 240) + (b1 : Int) - 128) + (b2 : Int) - 128) + (b3 : Int) - 128)]) rfl _ _ rfl rfl rfl HS.out.1 HS.out.2 (by have := HI.out.2.2.2.2.1; show _ + 1 ≤ _; omega) ?_; intro u6 w6 q1 q2 q3))
          go_roundw
          case rel =>
            obtain ⟨c, hce⟩ : ∃ c : Nat, (64 * (64 * (64 * ((b0 : Int) - 240) + (b1 : Int) - 128) + (b2 : Int) - 128) + (b3 : Int) - 128) = (c : Int) := ⟨((64 * (64 * (64 * ((b0 : Int) - 240) + (b1 : Int) - 128) + (b2 : Int) - 128) + (b3 : Int) - 128)).toNat, by omega⟩
            have hdec : decodeL (s.data.toList.drop i) = (c, 4) := by
              refine HG.out.dec.trans ?_
              unfold decodeN
              repeat' split
              all_goals first | (exfalso; omega) | (refine Prod.ext ?_ rfl; dsimp only; omega)
            obtain ⟨hv, hr⟩ := good_of HG.out.ne hdec (by omega)
            obtain ⟨e1, e2, e3, e4, e5, e6⟩ := HI.out
            rw [List.drop_drop] at hv hr
            refine ⟨i + 4, rs ++ [(c : Int)], by go_num, by omega, ?_, ?_, ?_, ?_, ?_, ?_⟩
            · rw [← hce]
              exact q1
            · exact fun k hk => (q3 k hk).elim (fun q => e2 k q) (fun q => by have := e6.size; simp only [World.size_alloc] at q; omega)
            · rw [List.append_assoc, List.cons_append, List.nil_append, ← hr]
              exact e3
            · rw [← hv]
              exact e4
            · rw [List.length_append]
              show _ + 1 ≤ _
              omega
            · exact ((e6.later (below_one wr _)).later (below_one _ _)).own q2 e2
          case measure => simp [intOf]; omega
    · have hlti : ¬ (i : Int) < (s.size : Int) := by omega
      obtain ⟨e1, e2, e3, e4, e5, e6⟩ := HI.out
      have hd : s.data.toList.drop i = [] := List.drop_of_length_le (by rw [Array.length_toList]; show s.size ≤ i; omega)
      rw [hd] at e3 e4
      rw [rn_nil, List.append_nil] at e3
      rw [e3] at e1
      have HE := hid_of' (And.intro e1 (And.intro e2 e4))
      clear e1 e2 e3 e4 e5 e6 hd hov
      go_wp2
      go_ret2
      exact ⟨.inl ⟨_, HE.out.2.2.symm, rfl, HE.out.1, HE.out.2.1⟩, HW.out⟩
end Go.Proofs.YtphdkniplhkkfaaDoor
