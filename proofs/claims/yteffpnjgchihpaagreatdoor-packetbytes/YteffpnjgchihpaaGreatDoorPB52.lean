
/-
  barrowlaw09.PacketBytes.
-/
import Derived.Test.YteffpnjgchihpaaGreatDoorPB50
import Derived.Test.YteffpnjgchihpaaGreatDoorPB51
namespace Go.Proofs.YteffpnjgchihpaaGreatDoor
open Go.RowKit Go.Extern.Stop Go.Stop Go.Extern
set_option maxRecDepth 100000

set_option maxHeartbeats 16000000 in
theorem packetBytes_all {ad : Nat → Addr} {W : World} {v : Value} {ms : List (Pms × Value)} (L : Laid ad W) (hv : SlMs W v ms) :
    Calls Tryz.prog 3 #[v] W fun e w' => e = .returned (.bool true) ∧ Below W.heap.size W w' := by
  obtain ⟨a, n, c, hva, hn⟩ : ∃ a n c, v = .slice a n c ∧ ms.length = n := by
    rcases hv with ⟨rfl, a, c, rfl⟩ | ⟨g, o, c, rfl, _⟩
    · exact ⟨a, 0, c, rfl, rfl⟩
    · exact ⟨_, _, c, rfl, rfl⟩
  subst hva
  have H := hid_of' (And.intro L (And.intro hv hn))
  clear L hv hn
  go_enter Tryz.func3, Tryz.ntmps3
  go_upto_region 2 with fail
  go_loopw [3] (fun iv wr => ∃ i : Nat, iv = .int .i64 (i : Int) ∧ i ≤ 40 ∧ i ≤ n ∧ Below W.heap.size W wr) (fun iv _ => 40 - (intOf iv).toNat)
  case atStart => exact ⟨0, rfl, by omega, by omega, Below.refl _ _⟩
  case round =>
    obtain ⟨i, rfl, hi40, hin, hB⟩ := hrel
    by_cases hlt : i < n
    · have hi1 : (i : Int) < (n : Int) := by omega
      by_cases h40 : i < 40
      · have hi2 : (i : Int) < 40 := by omega
        obtain ⟨⟨m, s⟩, hbs⟩ : ∃ x, ms[i]? = some x := ⟨_, List.getElem?_eq_getElem (by rw [H.out.2.2]; exact hlt)⟩
        obtain ⟨g, o, hag, hc0⟩ : ∃ g o, a = some ⟨g, o, none⟩ ∧ CsIn g (o + i * 156) (mv m s) W ∧ shM m ∧ (∀ a ∈ m.2.2.2.2.1, fitA a) ∧ bndM m ∧ SlA W s m.2.2.2.2.1 ∧ (∀ a n c, s = .slice a n c → n ≤ c) ∧ ckM m := by
          rcases H.out.2.1 with ⟨hr, _⟩ | ⟨g, o, c', e, hall⟩
          · rw [hr] at hbs; cases hbs
          · cases e
            exact ⟨g, o, rfl, hall i (m, s) hbs⟩
        subst hag
        obtain ⟨hcm, hsh, hfa, hbd, hsl, hcap, hck⟩ := hc0
        have hcr := hcm.later hB
        have HB := hid_of' hB
        have HC := hid_of' (cut9_any m s wr hsh (hsl.later hB) hcap)
        have HM := hid_of' (And.intro (cutM_fit hsh hfa) (And.intro (cutM_bnd hbd) (And.intro (cutM_ck hck) (And.intro (cutM_le m) hsl))))
        have hms := mv_size (s := s) hsh
        have hmsz : ∀ s', (mv (cutM m) s').size = 156 := fun s' => by simp [mv, ml_len (cutM_sh hsh)]
        have HSZ := hid_of' (And.intro hmsz (fun s' : Value => mv_size (s := s') (cutM_sh hsh)))
        clear hB hcm hsl hcap hfa hbd hck hbs hmsz
        go_upto_region 5 with (first
          | (refine wpL_ld rfl 31 _ rfl rfl hcr Tryz.underlying31 rfl hms ?_)
          | (go_at_call 4; refine HC.out.mono ?_; rintro e w1 ⟨s', rfl, hs', hb1⟩; have hB1 := HB.out.trans (hb1.mono HB.out.size); obtain ⟨pa, pc, rfl⟩ := slP_form (hs' w1 (HM.out.2.2.2.2.later hB1)))
          | (refine wpL_allocP rfl _ rfl zero_msP ?_; go_simp)
          | (refine wpL_stNew rfl 31 _ _ rfl rfl rfl (cs := mv (cutM m) (.slice pa (cutM m).2.2.2.2.1.length pc)) rfl (mv_size HM.out.1.sh) (by rw [HSZ.out.1]; exact mv_z156) (mv_one _ rfl) ?_))
        have b2 := below_one w1 (.cells (mv (cutM m) (.slice pa (cutM m).2.2.2.2.1.length pc)) 31)
        have r4 := RowAt.new w1 (mv (cutM m) (.slice pa (cutM m).2.2.2.2.1.length pc)) 31
        have hB2 := hB1.trans (b2.mono hB1.size)
        have hsA : ∀ x, Below W.heap.size W x → SlA x (.slice pa (cutM m).2.2.2.2.1.length pc) (cutM m).2.2.2.2.1 := fun x hb => hs' x (HM.out.2.2.2.2.later hb)
        have hm4 := r4.lt
        generalize w1.alloc (.cells (mv (cutM m) (.slice pa (cutM m).2.2.2.2.1.length pc)) 31) = w2 at r4 b2 hB2 hm4 ⊢
        generalize w1.heap.size = m4 at r4 hm4 ⊢
        have HF := hid_of' (And.intro HM.out.1 (And.intro HM.out.2.1 (And.intro HM.out.2.2.1 (And.intro HM.out.2.2.2.1 hsA))))
        clear hb1 hB1 b2 hs' HC HM hcr hms hsA hsh
        obtain ⟨M, hMM⟩ : ∃ M, M = cutM m := ⟨_, rfl⟩
        rw [← hMM] at r4 HF HSZ ⊢
        clear hMM
        obtain ⟨N, hN⟩ : ∃ N, M.2.2.2.2.1.length = N := ⟨_, rfl⟩
        rw [hN] at r4 HF ⊢
        have HBy := hid_of' (refBytes_u M _ w2 HF.out.1 HF.out.2.2.1 HF.out.2.1 (HF.out.2.2.2.2 w2 hB2) (by rw [hN]; exact HF.out.2.2.2.1))
        have HN := hid_of' (And.intro hN (bOf_le HF.out.1 HF.out.2.1 (by rw [hN]; exact HF.out.2.2.2.1)))
        have hN60 : N ≤ 60 := HF.out.2.2.2.1
        obtain ⟨S, hS⟩ : ∃ S, bOf M = S := ⟨_, rfl⟩
        rw [hS] at HBy
        have HB2 := hid_of' hB2
        clear hB2 hN
        go_upto_region 6 with (first
          | (refine wpL_ld rfl 31 _ rfl rfl r4.in Tryz.underlying31 rfl (HSZ.out.2 _) ?_)
          | (go_at_call 5; refine HBy.out.mono ?_; rintro e w3 ⟨qa, qc, no, rfl, hsw, hno, ⟨c9, a9, n9, k9, a9', n9', k9', rfl⟩, hb3⟩)
          | (refine wpL_allocQ9 rfl _ rfl zero_no9 ?_; go_simp)
          | (refine wpL_stNew rfl 37 _ _ rfl rfl rfl (cs := nov c9 a9 n9 k9 a9' n9' k9') rfl no_size rfl (by simp [nov, Value.oneCell']) ?_))
        have b4 := below_one w3 (.cells (nov c9 a9 n9 k9 a9' n9' k9') 37)
        have r6 := RowAt.new w3 (nov c9 a9 n9 k9 a9' n9' k9') 37
        have hb24 := bgo hb3 b4
        have r4' := r4.later hb24
        have hs3 := hb3.size
        have hsw' := hsw.grow b4
        have hno' := hno.later b4
        have hB4 := HB2.out.trans (hb24.mono HB2.out.size)
        clear r4 hsw hno hb3 HBy hb24 HB2
        generalize w3.alloc (.cells (nov c9 a9 n9 k9 a9' n9' k9') 37) = w4 at r6 b4 r4' hsw' hno' hB4 ⊢
        generalize w3.heap.size = n6 at r6 hs3 ⊢
        have hn6 := r6.lt
        obtain ⟨no, hnq⟩ : ∃ no, no = nov c9 a9 n9 k9 a9' n9' k9' := ⟨_, rfl⟩
        have hno3 : (Tryz.prog.info? 37).map (·.size) = some no.size := by rw [hnq, no_size]; rfl
        rw [← hnq] at r6 hno'
        have HX := hid_of' (And.intro r4' (And.intro r6 (And.intro hsw' (And.intro hno' (And.intro hB4 hno3)))))
        clear r6 hsw' hno' hB4 b4 hno3 hnq
        have HL4 := hid_of' (H.out.1.below HX.out.2.2.2.2.1)
        go_upto_region 7 with (first
          | (refine wpL_ld rfl 31 _ rfl rfl HX.out.1.in Tryz.underlying31 rfl (HSZ.out.2 _) ?_)
          | (refine wpL_allocP rfl _ rfl zero_msP ?_; go_simp)
          | (refine wpL_stNew rfl 31 _ _ rfl rfl rfl (cs := mv M (.slice pa N pc)) rfl (HSZ.out.2 _) (by rw [HSZ.out.1]; exact mv_z156) (mv_one _ rfl) ?_))
        have b5 := below_one w4 (.cells (mv M (.slice pa N pc)) 31)
        have r7 := RowAt.new w4 (mv M (.slice pa N pc)) 31
        generalize w4.alloc (.cells (mv M (.slice pa N pc)) 31) = w5 at b5 r7 ⊢
        have hm7w : w4.heap.size < w5.heap.size := r7.lt
        generalize hm7 : w4.heap.size = m7 at r7 hm7w ⊢
        have HM7 := hid_of' hm7
        clear hm7
        have ca5 : w5.cell? ⟨m4, 11, none⟩ = some (.slice pa N pc) := ((HX.out.1.later b5).cell 11).trans (mv_a _ HF.out.1.sh)
        have hB5 := HX.out.2.2.2.2.1.trans (b5.mono HX.out.2.2.2.2.1.size)
        have hLn := lendActs_is (HF.out.2.2.2.2 w5 hB5) HF.out.1.sh.2.1 (by rw [HN.out.1]; omega)
        rw [HN.out.1] at hLn
        have HLn := hid_of' hLn
        have H5 := hid_of' (And.intro b5 r7)
        clear hLn b5 r7 hB5
        go_upto_region 8 with (go_at_call 6; refine HLn.out.mono ?_; rintro e w6 ⟨G, lc, rfl, hr6, hG, hb6⟩; have r7 := H5.out.2.later hb6; have d7 : w6.cell? ⟨m7, 11, none⟩ = some (.slice pa N pc) := (r7.cell 11).trans (mv_a _ HF.out.1.sh); have f7 : w6.frozen? ⟨m7, 11, none⟩ = false := frozenW_of r7 11)
        have r7' : RowAt m7 (mv M (.slice (some ⟨G, 0, none⟩) N lc)) 31 (w6.setCell ⟨m7, 11, none⟩ (.slice (some ⟨G, 0, none⟩) N lc)) := by
          have q := heap_setCell_at r7 11 (.slice (some ⟨G, 0, none⟩) N lc)
          rw [mvP_set11 HF.out.1.sh] at q
          exact q
        have kS : Kept [m7] w6 (w6.setCell ⟨m7, 11, none⟩ (.slice (some ⟨G, 0, none⟩) N lc)) := (Kept.refl _ w6).set (p := ⟨m7, 11, none⟩) (.inl (by simp)) _
        have hGm : ¬ G = m7 := by omega
        have hr7 : Rw 60 13 (.slice (some ⟨G, 0, none⟩) (N + 4) lc) (N + 4) (acells (M.2.2.2.2.1 ++ mk4a 4)) (w6.setCell ⟨m7, 11, none⟩ (.slice (some ⟨G, 0, none⟩) N lc)) := hr6.ch (S := fun k => k = m7) ⟨kS.os, kS.tape, kS.output, kS.size, fun g hg hn => kS.block g hg (by simpa using hn)⟩ (fun k hk e => by cases hk; exact hGm e)
        have hb47 : Below w4.heap.size w4 (w6.setCell ⟨m7, 11, none⟩ (.slice (some ⟨G, 0, none⟩) N lc)) := by
          have hb := bgo H5.out.1 hb6
          exact hb.trans ⟨kS.os, kS.tape, kS.output, kS.size, fun k hk => kS.block k (by have := hb.size; omega) (by have := HM7.out; simp; omega)⟩
        have hm7G : m7 < G := by omega
        clear r7 d7 f7 hr6 hb6 kS ca5 HLn H5
        generalize w6.setCell ⟨m7, 11, none⟩ (.slice (some ⟨G, 0, none⟩) N lc) = w7 at r7' hr7 hb47 ⊢
        have hall : ∀ a ∈ M.2.2.2.2.1 ++ mk4a 4, shA a := fun a ha => by
          rcases List.mem_append.1 ha with q | q
          · exact HF.out.1.sh.2.1 a q
          · unfold mk4a at q
            obtain ⟨i, _, rfl⟩ := List.mem_map.1 q
            rfl
        have hsL : SlA w7 (.slice (some ⟨G, 0, none⟩) N lc) M.2.2.2.2.1 := rw_preA hr7 hall HN.out.1
        have hBy := bytesP_u M _ w7 (lwOf (HL4.out.below hb47)) HF.out.1 HF.out.2.1 hsL (by have := HN.out.2; omega)
        rw [hS] at hBy
        have HBy := hid_of' hBy
        have HY := hid_of' (And.intro r7' (And.intro hr7 (And.intro hb47 (And.intro hall hm7G))))
        have hr7in := r7'
        have hGlt : G < w7.heap.size := hr7.lt G rfl
        clear hr7 hb47 hBy hsL hall r7'
        go_upto_region 9 with (first
          | (refine wpL_ld rfl 31 _ rfl rfl hr7in.in Tryz.underlying31 rfl (HSZ.out.2 _) ?_)
          | (go_at_call 7; refine HBy.out.mono ?_; rintro e w8 ⟨ba, bc, err, rfl, hrb, hob, heb, hb8⟩))
        clear hr7in
        have hs8 := hb8.size
        have hb48 : Below w4.heap.size w4 w8 := bgo HY.out.2.2.1 hb8
        have HZ := hid_of' (And.intro hrb (And.intro hob (And.intro heb (And.intro hb8 hb48))))
        clear hrb hob heb hb8 hb48 HBy
        have hB8 := HX.out.2.2.2.2.1.trans (HZ.out.2.2.2.2.mono HX.out.2.2.2.2.1.size)
        have FX := hid_of' (And.intro (HY.out.1.later HZ.out.2.2.2.1) (And.intro (HX.out.1.later HZ.out.2.2.2.2) (And.intro (HX.out.2.1.later HZ.out.2.2.2.2) (And.intro ((rw_preA HY.out.2.1 HY.out.2.2.2.1 HN.out.1).later HZ.out.2.2.2.1) (And.intro (HF.out.2.2.2.2 w8 hB8) (And.intro (H.out.1.below hB8) (And.intro (rw_slB9 (bs := S) HZ.out.1 rfl) (And.intro (HX.out.2.2.1.grow HZ.out.2.2.2.2) (And.intro (HX.out.2.2.2.1.later HZ.out.2.2.2.2) HZ.out.2.2.1)))))))))
        have FLn := hid_of' (HY.out.2.1.later HZ.out.2.2.2.1)
        have HB8 := hid_of' hB8
        obtain ⟨rb, hrb⟩ : ∃ rb, rightB M = rb := ⟨_, rfl⟩
        clear hB8
        refine wp_region_once 24 (by kernel_rfl) (fun j => if j = 5 then some false else if j = 11 then some false else if j = 18 then some false else none) (by kernel_rfl) (by kernel_rfl) (by decide) (fun i v x => match i with
          | 0 => v = .agg (mv M (.slice (some ⟨G, 0, none⟩) N lc))
          | 1 => v = .bool rb
          | 2 => v = .agg (mv M (.slice pa N pc))
          | 3 => v = .bool rb
          | 4 => v = .bool false
          | 5 => v = .bool false
          | 6 => v = err
          | 7 => v = .agg no
          | 8 => v = .bool true
          | 9 => v = .bool false
          | 10 => v = .bool false
          | 11 => v = .bool false
          | 12 => v = .slice ba S.length bc
          | 13 => v = .string ⟨S.toArray⟩
          | 14 => v = .slice qa S.length qc
          | 15 => v = .string ⟨S.toArray⟩
          | 16 => v = .bool false
          | 17 => v = .bool false
          | 18 => v = .bool false
          | 19 => v = .pointer (some ⟨m7, 11, none⟩)
          | 20 => v = .slice (some ⟨G, 0, none⟩) N lc
          | 21 => v = .pointer (some ⟨m4, 11, none⟩)
          | 22 => v = .slice pa N pc
          | 23 => v = .bool true
          | _ => True) (fun _ => false) ?_ 23 (by decide) (fun a b => Ch (fun k => k = G) a b) (fun a b => Ch (fun k => k = G) a b) (fun _ _ g h => g.later h) (fun _ h => Ch.of h) (fun _ _ h g => (Ch.of h).trans g) (fun _ _ g => g.size) ?_ ?_ ?_ ?_
        · intro j v x b hj hR
          by_cases e5 : j = 5
          · subst e5; simp at hj; subst hj; exact hR
          · by_cases e11 : j = 11
            · subst e11; simp at hj; subst hj; exact hR
            · by_cases e18 : j = 18
              · subst e18; simp at hj; subst hj; exact hR
              · simp [e5, e11, e18] at hj
        · intro i v x x' hR hb
          match i, hR with
          | 0, h => exact h
          | 1, h => exact h
          | 2, h => exact h
          | 3, h => exact h
          | 4, h => exact h
          | 5, h => exact h
          | 6, h => exact h
          | 7, h => exact h
          | 8, h => exact h
          | 9, h => exact h
          | 10, h => exact h
          | 11, h => exact h
          | 12, h => exact h
          | 13, h => exact h
          | 14, h => exact h
          | 15, h => exact h
          | 16, h => exact h
          | 17, h => exact h
          | 18, h => exact h
          | 19, h => exact h
          | 20, h => exact h
          | 21, h => exact h
          | 22, h => exact h
          | 23, h => exact h
          | m + 24, h => exact h
        · intro i v x x' hne hR hb
          match i, hne, hR with
          | 0, hne, h => exact h
          | 1, hne, h => exact h
          | 2, hne, h => exact h
          | 3, hne, h => exact h
          | 4, hne, h => exact h
          | 5, hne, h => exact h
          | 6, hne, h => exact h
          | 7, hne, h => exact h
          | 8, hne, h => exact h
          | 9, hne, h => exact h
          | 10, hne, h => exact h
          | 11, hne, h => exact h
          | 12, hne, h => exact h
          | 13, hne, h => exact h
          | 14, hne, h => exact h
          | 15, hne, h => exact h
          | 16, hne, h => exact h
          | 17, hne, h => exact h
          | 18, hne, h => exact h
          | 19, hne, h => exact h
          | 20, hne, h => exact h
          | 21, hne, h => exact h
          | 22, hne, h => exact h
          | 23, hne, h => exact absurd rfl hne
          | m + 24, _, h => exact h
        · intro i o hi ho q x vals hX hC hdep hoth
          have t7 : q.tmps[7]? = some (.pointer (some ⟨m7, 0, none⟩)) := by rw [hoth 7 (by kernel_rfl)]; rfl
          have t4 : q.tmps[4]? = some (.pointer (some ⟨m4, 0, none⟩)) := by rw [hoth 4 (by kernel_rfl)]; rfl
          have t6 : q.tmps[6]? = some (.pointer (some ⟨n6, 0, none⟩)) := by rw [hoth 6 (by kernel_rfl)]; rfl
          have t8 : q.tmps[8]? = some (.slice ba S.length bc) := by rw [hoth 8 (by kernel_rfl)]; rfl
          have t5 : q.tmps[5]? = some (.slice qa S.length qc) := by rw [hoth 5 (by kernel_rfl)]; rfl
          have t9 : q.tmps[9]? = some (err) := by rw [hoth 9 (by kernel_rfl)]; rfl
          match i, hi, ho, hC with
          | 0, _, ho, hC =>
            simp only [List.getElem?_cons_zero, Option.some.injEq] at ho
            subst ho
            have hb := hC (.inr (by kernel_rfl))
            refine opw_ldP 31 _ rfl (by simp [Act.eval, t7]) (FX.out.1.later hb).in Tryz.underlying31 rfl (HSZ.out.2 _) ?_
            exact cameB _ rfl (by decide) (Below.refl _ _) rfl (fun h => absurd h (by decide))
          | 1, _, ho, hC =>
            simp only [List.getElem?_cons_succ, List.getElem?_cons_zero, Option.some.injEq] at ho
            subst ho
            obtain ⟨u0, e0⟩ := hdep ⟨0, .data⟩ (by simp) rfl _ 42 rfl rfl
            rw [show vals 0 = .agg (mv M (.slice (some ⟨G, 0, none⟩) N lc)) from e0] at u0
            unfold Oper.wp
            simp [go_sem, u0]
            refine (right_is hrb (.slice (some ⟨G, 0, none⟩) N lc) x HF.out.1 (FX.out.2.2.2.1.later (hC (.inr (by kernel_rfl))))).mono ?_
            rintro r x1 ⟨rfl, hb1⟩
            exact cameB _ rfl (by decide) hb1 rfl (fun h => absurd h (by decide))
          | 2, _, ho, hC =>
            simp only [List.getElem?_cons_succ, List.getElem?_cons_zero, Option.some.injEq] at ho
            subst ho
            have hb := hC (.inr (by kernel_rfl))
            refine opw_ldP 31 _ rfl (by simp [Act.eval, t4]) (FX.out.2.1.later hb).in Tryz.underlying31 rfl (HSZ.out.2 _) ?_
            exact cameB _ rfl (by decide) (Below.refl _ _) rfl (fun h => absurd h (by decide))
          | 3, _, ho, hC =>
            simp only [List.getElem?_cons_succ, List.getElem?_cons_zero, Option.some.injEq] at ho
            subst ho
            obtain ⟨u2, e2⟩ := hdep ⟨2, .data⟩ (by simp) rfl _ 44 rfl rfl
            rw [show vals 2 = .agg (mv M (.slice pa N pc)) from e2] at u2
            unfold Oper.wp
            simp [go_sem, u2]
            refine (refRight_is hrb (.slice pa N pc) x HF.out.1 HF.out.2.2.1 (FX.out.2.2.2.2.1.later (hC (.inr (by kernel_rfl))))).mono ?_
            rintro r x1 ⟨rfl, hb1⟩
            exact cameB _ rfl (by decide) hb1 rfl (fun h => absurd h (by decide))
          | 4, _, ho, hC =>
            simp only [List.getElem?_cons_succ, List.getElem?_cons_zero, Option.some.injEq] at ho
            subst ho
            obtain ⟨u1, e1⟩ := hdep ⟨1, .data⟩ (by simp) rfl _ 43 rfl rfl
            rw [show vals 1 = .bool rb from e1] at u1
            obtain ⟨u3, e3⟩ := hdep ⟨3, .data⟩ (by simp) rfl _ 45 rfl rfl
            rw [show vals 3 = .bool rb from e3] at u3
            unfold Oper.wp
            simp [execOp, go_sem, u1, u3]
            exact cameB _ rfl (by decide) (Below.refl _ _) rfl (fun h => absurd h (by decide))
          | 5, _, ho, hC =>
            simp only [List.getElem?_cons_succ, List.getElem?_cons_zero, Option.some.injEq] at ho
            subst ho
            obtain ⟨u4, e4⟩ := hdep ⟨4, .data⟩ (by simp) rfl _ 46 rfl rfl
            rw [show vals 4 = .bool false from e4] at u4
            unfold Oper.wp
            simp [execOp, go_sem, u4]
            exact cameB _ rfl (by decide) (Below.refl _ _) rfl (fun h => absurd h (by decide))
          | 6, _, ho, hC =>
            simp only [List.getElem?_cons_succ, List.getElem?_cons_zero, Option.some.injEq] at ho
            subst ho
            unfold Oper.wp
            simp [execOp, go_sem, t9]
            exact cameB _ rfl (by decide) (Below.refl _ _) rfl (fun h => absurd h (by decide))
          | 7, _, ho, hC =>
            simp only [List.getElem?_cons_succ, List.getElem?_cons_zero, Option.some.injEq] at ho
            subst ho
            have hb := hC (.inr (by kernel_rfl))
            refine opw_ldP 37 _ rfl (by simp [Act.eval, t6]) (FX.out.2.2.1.later hb).in Tryz.underlying37 rfl HX.out.2.2.2.2.2 ?_
            exact cameB _ rfl (by decide) (Below.refl _ _) rfl (fun h => absurd h (by decide))
          | 8, _, ho, hC =>
            simp only [List.getElem?_cons_succ, List.getElem?_cons_zero, Option.some.injEq] at ho
            subst ho
            obtain ⟨u6, e6⟩ := hdep ⟨6, .data⟩ (by simp) rfl _ 48 rfl rfl
            rw [show vals 6 = err from e6] at u6
            obtain ⟨u7, e7⟩ := hdep ⟨7, .data⟩ (by simp) rfl _ 49 rfl rfl
            rw [show vals 7 = .agg no from e7] at u7
            unfold Oper.wp
            simp [go_sem, u6, u7]
            refine (refused_b (FX.out.2.2.2.2.2.1.below (hC (.inr (by kernel_rfl)))) (FX.out.2.2.2.2.2.2.2.2.1.later (hC (.inr (by kernel_rfl)))) (FX.out.2.2.2.2.2.2.2.2.2.later (hC (.inr (by kernel_rfl))))).mono ?_
            rintro r x1 ⟨rfl, hb1⟩
            exact cameB _ rfl (by decide) hb1 rfl (fun h => absurd h (by decide))
          | 9, _, ho, hC =>
            simp only [List.getElem?_cons_succ, List.getElem?_cons_zero, Option.some.injEq] at ho
            subst ho
            obtain ⟨u8, e8⟩ := hdep ⟨8, .data⟩ (by simp) rfl _ 50 rfl rfl
            rw [show vals 8 = .bool true from e8] at u8
            unfold Oper.wp
            simp [execOp, go_sem, u8]
            exact cameB _ rfl (by decide) (Below.refl _ _) rfl (fun h => absurd h (by decide))
          | 10, _, ho, hC =>
            simp only [List.getElem?_cons_succ, List.getElem?_cons_zero, Option.some.injEq] at ho
            subst ho
            obtain ⟨u5, e5⟩ := hdep ⟨5, .data⟩ (by simp) rfl _ 47 rfl rfl
            rw [show vals 5 = .bool false from e5] at u5
            obtain ⟨u9, e9⟩ := hdep ⟨9, .data⟩ (by simp) rfl _ 51 rfl rfl
            rw [show vals 9 = .bool false from e9] at u9
            unfold Oper.wp
            simp [execOp, go_sem, u5, u9]
            exact cameB _ rfl (by decide) (Below.refl _ _) rfl (fun h => absurd h (by decide))
          | 11, _, ho, hC =>
            simp only [List.getElem?_cons_succ, List.getElem?_cons_zero, Option.some.injEq] at ho
            subst ho
            obtain ⟨u10, e10⟩ := hdep ⟨10, .data⟩ (by simp) rfl _ 52 rfl rfl
            rw [show vals 10 = .bool false from e10] at u10
            unfold Oper.wp
            simp [execOp, go_sem, u10]
            exact cameB _ rfl (by decide) (Below.refl _ _) rfl (fun h => absurd h (by decide))
          | 12, _, ho, hC =>
            simp only [List.getElem?_cons_succ, List.getElem?_cons_zero, Option.some.injEq] at ho
            subst ho
            unfold Oper.wp
            simp [execOp, go_sem, t8]
            exact cameB _ rfl (by decide) (Below.refl _ _) rfl (fun h => absurd h (by decide))
          | 13, _, ho, hC =>
            simp only [List.getElem?_cons_succ, List.getElem?_cons_zero, Option.some.injEq] at ho
            subst ho
            obtain ⟨u12, e12⟩ := hdep ⟨12, .data⟩ (by simp) rfl _ 54 rfl rfl
            rw [show vals 12 = .slice ba S.length bc from e12] at u12
            have hb := hC (.inr (by kernel_rfl))
            refine opw_convB _ rfl (by simp [Act.eval, u12]) (conv_all (FX.out.2.2.2.2.2.2.1.grow hb)) ?_
            exact cameB _ rfl (by decide) (Below.refl _ _) rfl (fun h => absurd h (by decide))
          | 14, _, ho, hC =>
            simp only [List.getElem?_cons_succ, List.getElem?_cons_zero, Option.some.injEq] at ho
            subst ho
            unfold Oper.wp
            simp [execOp, go_sem, t5]
            exact cameB _ rfl (by decide) (Below.refl _ _) rfl (fun h => absurd h (by decide))
          | 15, _, ho, hC =>
            simp only [List.getElem?_cons_succ, List.getElem?_cons_zero, Option.some.injEq] at ho
            subst ho
            obtain ⟨u14, e14⟩ := hdep ⟨14, .data⟩ (by simp) rfl _ 56 rfl rfl
            rw [show vals 14 = .slice qa S.length qc from e14] at u14
            have hb := hC (.inr (by kernel_rfl))
            refine opw_convB _ rfl (by simp [Act.eval, u14]) (conv_all (FX.out.2.2.2.2.2.2.2.1.grow hb)) ?_
            exact cameB _ rfl (by decide) (Below.refl _ _) rfl (fun h => absurd h (by decide))
          | 16, _, ho, hC =>
            simp only [List.getElem?_cons_succ, List.getElem?_cons_zero, Option.some.injEq] at ho
            subst ho
            obtain ⟨u13, e13⟩ := hdep ⟨13, .data⟩ (by simp) rfl _ 55 rfl rfl
            rw [show vals 13 = .string ⟨S.toArray⟩ from e13] at u13
            obtain ⟨u15, e15⟩ := hdep ⟨15, .data⟩ (by simp) rfl _ 57 rfl rfl
            rw [show vals 15 = .string ⟨S.toArray⟩ from e15] at u15
            unfold Oper.wp
            simp [execOp, go_sem, u13, u15]
            exact cameB _ rfl (by decide) (Below.refl _ _) rfl (fun h => absurd h (by decide))
          | 17, _, ho, hC =>
            simp only [List.getElem?_cons_succ, List.getElem?_cons_zero, Option.some.injEq] at ho
            subst ho
            obtain ⟨u11, e11⟩ := hdep ⟨11, .data⟩ (by simp) rfl _ 53 rfl rfl
            rw [show vals 11 = .bool false from e11] at u11
            obtain ⟨u16, e16⟩ := hdep ⟨16, .data⟩ (by simp) rfl _ 58 rfl rfl
            rw [show vals 16 = .bool false from e16] at u16
            unfold Oper.wp
            simp [execOp, go_sem, u11, u16]
            exact cameB _ rfl (by decide) (Below.refl _ _) rfl (fun h => absurd h (by decide))
          | 18, _, ho, hC =>
            simp only [List.getElem?_cons_succ, List.getElem?_cons_zero, Option.some.injEq] at ho
            subst ho
            obtain ⟨u17, e17⟩ := hdep ⟨17, .data⟩ (by simp) rfl _ 59 rfl rfl
            rw [show vals 17 = .bool false from e17] at u17
            unfold Oper.wp
            simp [execOp, go_sem, u17]
            exact cameB _ rfl (by decide) (Below.refl _ _) rfl (fun h => absurd h (by decide))
          | 19, _, ho, hC =>
            simp only [List.getElem?_cons_succ, List.getElem?_cons_zero, Option.some.injEq] at ho
            subst ho
            unfold Oper.wp
            simp [execOp, go_sem, t7]
            exact cameB _ rfl (by decide) (Below.refl _ _) rfl (fun h => absurd h (by decide))
          | 20, _, ho, hC =>
            simp only [List.getElem?_cons_succ, List.getElem?_cons_zero, Option.some.injEq] at ho
            subst ho
            obtain ⟨u19, e19⟩ := hdep ⟨19, .data⟩ (by simp) rfl _ 61 rfl rfl
            rw [show vals 19 = .pointer (some ⟨m7, 11, none⟩) from e19] at u19
            have hb := hC (.inr (by kernel_rfl))
            have cc : x.cell? ⟨m7, 11, none⟩ = some (.slice (some ⟨G, 0, none⟩) N lc) := ((FX.out.1.later hb).cell 11).trans (mv_a _ HF.out.1.sh)
            unfold Oper.wp
            simp [execOp, go_sem, u19, cc]
            exact cameB _ rfl (by decide) (Below.refl _ _) rfl (fun h => absurd h (by decide))
          | 21, _, ho, hC =>
            simp only [List.getElem?_cons_succ, List.getElem?_cons_zero, Option.some.injEq] at ho
            subst ho
            unfold Oper.wp
            simp [execOp, go_sem, t4]
            exact cameB _ rfl (by decide) (Below.refl _ _) rfl (fun h => absurd h (by decide))
          | 22, _, ho, hC =>
            simp only [List.getElem?_cons_succ, List.getElem?_cons_zero, Option.some.injEq] at ho
            subst ho
            obtain ⟨u21, e21⟩ := hdep ⟨21, .data⟩ (by simp) rfl _ 63 rfl rfl
            rw [show vals 21 = .pointer (some ⟨m4, 11, none⟩) from e21] at u21
            have hb := hC (.inr (by kernel_rfl))
            have cc : x.cell? ⟨m4, 11, none⟩ = some (.slice pa N pc) := ((FX.out.2.1.later hb).cell 11).trans (mv_a _ HF.out.1.sh)
            unfold Oper.wp
            simp [execOp, go_sem, u21, cc]
            exact cameB _ rfl (by decide) (Below.refl _ _) rfl (fun h => absurd h (by decide))
          | 23, _, ho, hC =>
            simp only [List.getElem?_cons_succ, List.getElem?_cons_zero, Option.some.injEq] at ho
            subst ho
            obtain ⟨u20, e20⟩ := hdep ⟨20, .data⟩ (by simp) rfl _ 62 rfl rfl
            rw [show vals 20 = .slice (some ⟨G, 0, none⟩) N lc from e20] at u20
            obtain ⟨u22, e22⟩ := hdep ⟨22, .data⟩ (by simp) rfl _ 64 rfl rfl
            rw [show vals 22 = .slice pa N pc from e22] at u22
            unfold Oper.wp
            simp [go_sem, u20, u22]
            refine (intactActs_is (FLn.out.later (hC (.inl rfl))) (FX.out.2.2.2.2.1.later (hC (.inl rfl))) HF.out.1.sh.2.1 HN.out.1 hN60).mono ?_
            rintro r x1 ⟨rfl, hb1⟩
            exact cameX _ rfl hb1 rfl rfl
          | m + 24, hi, _, _ => exact absurd hi (by omega)
        · intro vals x hX hR _
          have e18 : vals 18 = .bool false := hR 18 (by decide)
          have e23 : vals 23 = .bool true := hR 23 (by decide)
          simp only [List.take, List.drop, putAll, e18, e23]
          simp only [List.setIfInBounds_toArray, List.set_cons_succ, List.set_cons_zero]
          clear e18 e23 hR
          have hbx : Rw 5 1 (.slice ba S.length bc) S.length (Lib.byteCells S) x := HZ.out.1.ch hX (fun k hk e => by have := HZ.out.2.1 k hk; omega)
          have hb4x : Below w4.heap.size w4 x := HZ.out.2.2.2.2.trans (hX.below (fun s hs e => by have := HM7.out; omega) HZ.out.2.2.2.2.size)
          have hSl : S.length ≤ 20000 := by rw [← hS]; exact HN.out.2
          have HSp := hid_of' (spoilBytes_is hbx (u8s_bytes S) (by omega))
          have HX9 := hid_of' (And.intro hb4x hX.size)
          clear hX hbx hb4x
          go_upto_region 12 with (go_at_call 12; refine HSp.out.mono ?_; rintro e w11 ⟨⟨z, rfl⟩, ch11⟩)
          have hb411 : Below w4.heap.size w4 w11 := HX9.out.1.trans (ch11.below (fun s hs e => by have := HZ.out.2.1 s e; have := HY.out.2.2.1.size; omega) HX9.out.1.size)
          have hB11 := HX.out.2.2.2.2.1.trans (hb411.mono HX.out.2.2.2.2.1.size)
          have r4x := HX.out.1.later hb411
          have hBy := bytesP_u M _ w11 (lwOf (HL4.out.below hb411)) HF.out.1 HF.out.2.1 (HF.out.2.2.2.2 w11 hB11) (by rw [hS]; omega)
          rw [hS] at hBy
          have HBy := hid_of' hBy
          have H11 := hid_of' (And.intro hb411 hB11)
          clear hb411 hB11 ch11 HSp HX9 hBy
          go_upto_region 13 with (first
            | (refine wpL_ld rfl 31 _ rfl rfl r4x.in Tryz.underlying31 rfl (HSZ.out.2 _) ?_)
            | (go_at_call 7; refine HBy.out.mono ?_; rintro e w12 ⟨ca, cc, err2, rfl, hrb2, _, heb2, hb12⟩))
          have hb412 := bgo H11.out.1 hb12
          have c1 := conv_all (rw_slB9 (bs := S) hrb2 rfl)
          have c2 := conv_all (HX.out.2.2.1.grow hb412)
          have r6x := HX.out.2.1.later hb412
          have HRf := hid_of' (refused_b (HL4.out.below hb412) (HX.out.2.2.2.1.later hb412) heb2)
          have HB12 := hid_of' (H11.out.2.trans (hb12.mono H11.out.2.size))
          clear hrb2 heb2 hb12 hb412 r4x HBy
          go_wp2_with (first
            | (refine wpL_convB rfl _ rfl rfl c1 ?_)
            | (refine wpL_convB rfl _ rfl rfl c2 ?_)
            | (refine wpL_ldG rfl 37 _ rfl rfl r6x.in Tryz.underlying37 rfl HX.out.2.2.2.2.2 ?_)
            | (go_at_call 10; refine HRf.out.mono ?_; rintro e w13 ⟨rfl, hb13⟩))
          have HB13 := hid_of' (HB12.out.trans (hb13.mono HB12.out.size))
          clear hb13
          go_roundw
          case rel => exact ⟨i + 1, by go_num, by omega, by omega, HB13.out⟩
          case measure => simp [intOf]; omega
      · have hi2 : ¬ (i : Int) < 40 := by omega
        have HE := hid_of' hB
        clear hB
        go_wp2_with (go_at_call 13; refine (wakes9_ok (lwOf (H.out.1.below HE.out))).mono ?_; rintro e w1 ⟨rfl, hb⟩)
        go_ret
        exact ⟨rfl, HE.out.trans (hb.mono HE.out.size)⟩
    · have hi1 : ¬ (i : Int) < (n : Int) := by omega
      have HE := hid_of' hB
      clear hB
      go_wp2_with (go_at_call 13; refine (wakes9_ok (lwOf (H.out.1.below HE.out))).mono ?_; rintro e w1 ⟨rfl, hb⟩)
      go_ret
      exact ⟨rfl, HE.out.trans (hb.mono HE.out.size)⟩
end Go.Proofs.YteffpnjgchihpaaGreatDoor
