
/-
  The document's Bytes.
-/
import Derived.Test.YteffpnjgchihpaaGreatDoorPB22
import Derived.Test.YteffpnjgchihpaaGreatDoorPB23
import Derived.Test.YteffpnjgchihpaaGreatDoorPB44
import Derived.Test.YteffpnjgchihpaaGreatDoorPB45
namespace Go.Proofs.YteffpnjgchihpaaGreatDoor
open Go.RowKit
set_option maxRecDepth 100000

theorem results_bn {fn : Func} {p q : Tmp} {tmps : Array Value} {w : World} {k : Nat} {no : Array Value} (h : fn.results = #[.tmp p, .cell q 37]) (hq : tmps.getD q undef = .pointer (some ⟨k, 0, none⟩)) (hk : RowAt k no 37 w) (hn : no.size = 3) :
    (results fn tmps).run Tryz.prog w = .ok (.tuple #[tmps.getD p undef, .agg no]) w := by
  have hq' : tmps[q]?.getD undef = .pointer (some ⟨k, 0, none⟩) := by simpa using hq
  simp [results, h, hq', asAddr, run_loadVar_row w k _ _ _ _ _ hk Tryz.underlying37 rfl (by rw [no_size, hn])]
theorem own_one (w : World) (base : Nat) (hb : base ≤ w.heap.size) (c : UInt8) (z : Int) (h : z = (c.toNat : Int)) : OwnB base (.slice (some ⟨w.heap.size, 0, none⟩) 1 1) [c] (w.alloc (.cells #[.int .u8 z] 5)) := by
  subst h
  exact ⟨rfl, .inr ⟨w.heap.size, 1, _, rfl, hb, RowAt.new w _ _, Nat.le_refl _, (by unfold maxLen; omega), rfl, rfl⟩⟩
theorem msP_sz {m : Pms} {s : Value} (h : shM m) : (mv m s).size = 156 := by simp [mv, ml_len h]
theorem rowQ_ne {a b : Nat} {cs ds : Array Value} {t u : TypeId} {w : World} (h : RowAt a cs t w) (g : RowAt b ds u w) (ht : t ≠ u) : ¬ a = b := fun e => by
  subst e
  unfold RowAt at h g
  rw [h] at g
  simp at g
  exact ht g.2
theorem ownB_setRow {base b : Nat} {v : Value} {l : List UInt8} {cs : Array Value} {t : TypeId} {w : World} (h : OwnB base v l w) (r : RowAt b cs t w) (ht : t ≠ 5) (c : Array Value) : OwnB base v l (w.setRow b c) := by
  refine ⟨h.1, ?_⟩
  rcases h.2 with h2 | ⟨g, cap, cur, h1, h2, h3, h4⟩
  · exact .inl h2
  · exact .inr ⟨g, cap, cur, h1, h2, by rw [setRow_other w b g c (fun e => (row_apart h r ht g (by rw [h1]; rfl)) e.symm)]; exact h3, h4⟩
theorem fActsL_le {l : List Pac} (h : ∀ a ∈ l, okAct a) (hn : l.length ≤ 60) : (fActs l).length ≤ 9 + 128 * 60 := by
  have h1 := fActs_le h
  have h2 := form_len9 l.length (by omega)
  unfold fActs
  rw [List.length_append]
  omega
theorem fRndsL_le {l : List Prn} (h : okRnds l) : (fRnds l).length ≤ 9 + 180 * 8 := by
  have h0 := lenG_le nzR l
  have h8 := h.1
  have h1 := fRnds_le (l := l.take (lenG nzR l)) (fun a ha => h.2 a (List.mem_of_mem_take ha))
  have h2 := form_len9 (lenG nzR l) (by omega)
  have h3 : (l.take (lenG nzR l)).length ≤ 8 := by rw [List.length_take]; omega
  unfold fRnds fRowG
  rw [List.length_append]
  omega
theorem built_noQ : Tryz.prog.built 37 [] = some #[.int .i64 0, .slice none 0 0, .slice none 0 0] := by kernel_rfl
set_option maxHeartbeats 4000000 in
theorem refBytes_no (m : Pms) (s : Value) (w : World) (hm : fitM m) (hc : ckM m) (hA : SlA w s m.2.2.2.2.1) (hr : rightB m = false) :
    Calls Tryz.prog 5 #[.agg (mv m s)] w fun e w' => ∃ g g', e = .returned (.tuple #[.slice none 0 0, .agg (nov 6 (some ⟨g', 0, none⟩) 1 1 (some ⟨g, 0, none⟩) 1 1)]) ∧ RowAt g' #[.string nmPacket, .string nmBytes, .int .i64 (-1)] 104 w' ∧ RowAt g #[.int .i64 6] 3 w' ∧ Below w.heap.size w w' := by
  have h0 := (RowAt.new w (mv m s) 31).later (below_one _ (.cells #[.int .i64 0, .slice none 0 0, .slice none 0 0] 37))
  have h1 : RowAt (w.heap.size + 1) #[.int .i64 0, .slice none 0 0, .slice none 0 0] 37 ((w.alloc (.cells (mv m s) 31)).alloc (.cells #[.int .i64 0, .slice none 0 0, .slice none 0 0] 37)) := by
    have := RowAt.new (w.alloc (.cells (mv m s) 31)) #[.int .i64 0, .slice none 0 0, .slice none 0 0] 37
    simpa using this
  have hB := bgo (below_one w (.cells (mv m s) 31)) (below_one _ (.cells #[.int .i64 0, .slice none 0 0, .slice none 0 0] 37))
  have HR := hid_of' (refRight_is hr s _ hm hc (hA.later hB))
  have HS := hid_of' (And.intro hm.sh (And.intro h1 hB))
  clear hA hr hc h1 hB
  go_enter Tryz.func5, Tryz.ntmps5
  go_wp2_with (first
    | (refine wpL_ld rfl 31 _ rfl rfl h0.in Tryz.underlying31 rfl (mv_size HS.out.1) ?_)
    | (go_at_call 9; refine HR.out.mono ?_; rintro e w1 ⟨rfl, hb1⟩)
    | (go_at_call 14; refine (say_any nmPacket nmBytes (-1) 6 w1 rfl).mono ?_; rintro e w2 ⟨g, g', rfl, g1, g2, g3, g4, g5⟩; have r1 := (HS.out.2.1.later hb1).later g5)
    | (refine wpL_storeNo rfl _ _ rfl rfl rfl r1 ?_))
  have g3' : RowAt g' #[.string nmPacket, .string nmBytes, .int .i64 (-1)] 104 w2 := g3
  refine bodyPost_ret (results_bn rfl rfl (r1.put (nov 6 (some ⟨g', 0, none⟩) 1 1 (some ⟨g, 0, none⟩) 1 1)) rfl) rfl ⟨g, g', rfl, g3'.other _ _ (rowQ_ne g3' r1 (by decide)), g4.other _ _ (rowQ_ne g4 r1 (by decide)), ?_⟩
  exact below_setRow (bgo (bgo HS.out.2.2 hb1) g5) (Nat.le_succ _) _
set_option maxHeartbeats 8000000 in
theorem refBytes_ok (m : Pms) (s : Value) (w : World) (hm : fitM m) (hc : ckM m) (hA : SlA w s m.2.2.2.2.1) (hr : rightB m = true) (ho : okMsg m) (hn : m.2.2.2.2.1.length ≤ 60) :
    Calls Tryz.prog 5 #[.agg (mv m s)] w fun e w' => ∃ v, e = .returned (.tuple #[v, .agg (nov 0 none 0 0 none 0 0)]) ∧ OwnB w.heap.size v (fMsg m) w' ∧ Below w.heap.size w w' := by
  have h0 := (RowAt.new w (mv m s) 31).later (below_one _ (.cells #[.int .i64 0, .slice none 0 0, .slice none 0 0] 37))
  have h1 : RowAt (w.heap.size + 1) #[.int .i64 0, .slice none 0 0, .slice none 0 0] 37 ((w.alloc (.cells (mv m s) 31)).alloc (.cells #[.int .i64 0, .slice none 0 0, .slice none 0 0] 37)) := by
    have := RowAt.new (w.alloc (.cells (mv m s) 31)) #[.int .i64 0, .slice none 0 0, .slice none 0 0] 37
    simpa using this
  have hB := bgo (below_one w (.cells (mv m s) 31)) (below_one _ (.cells #[.int .i64 0, .slice none 0 0, .slice none 0 0] 37))
  have HR := hid_of' (refRight_is hr s _ hm hc (hA.later hB))
  have HS := hid_of' (And.intro hm.sh (And.intro hA (And.intro hB (And.intro ho (And.intro hn (And.intro h0 h1))))))
  clear hA hr hc h1 hB ho hn hm
  go_enter Tryz.func5, Tryz.ntmps5
  go_upto_region 3 with (first
    | (refine wpL_ld rfl 31 _ rfl rfl h0.in Tryz.underlying31 rfl (mv_size HS.out.1) ?_)
    | (go_at_call 9; refine HR.out.mono ?_; rintro e w1 ⟨rfl, hb1⟩))
  have hB1 := bgo HS.out.2.2.1 hb1
  have R1 := And.intro (HS.out.2.2.2.2.2.1.later hb1) (HS.out.2.2.2.2.2.2.later hb1)
  have hA := HS.out.2.1
  have hs := HS.out.1
  have ho := HS.out.2.2.2.1
  have hn := HS.out.2.2.2.2.1
  clear HS HR h0 hb1
  obtain ⟨kd, fr, ep, ct, al, rs⟩ := m
  obtain ⟨hkd, hfr, hep, hbo⟩ := ho
  dsimp only at hkd hfr hep hbo hA hn
  have HM := hid_of' (And.intro hA hs)
  clear hA hs
  have c0 : w1.cell? ⟨w.heap.size, 0, none⟩ = some (.int .i64 kd) := R1.1.cell 0
  have hw8 : IntKind.u8.wrap kd = kd := u8_kind (by omega) (by omega)
  have O1 := own_one w1 w.heap.size hB1.size (UInt8.ofNat kd.toNat) kd (u8_of (by omega) (by omega))
  have HR1 := hid_of' (And.intro R1 hB1)
  clear R1 hB1
  go_upto_region 4 with fail
  have b1 := below_one w1 (.cells #[.int .u8 kd] 5)
  have A2 : WrQ w [UInt8.ofNat kd.toNat] (.slice (some ⟨w1.heap.size, 0, none⟩) 1 1) (w1.alloc (.cells #[.int .u8 kd] 5)) := ⟨O1, HR1.out.2.trans (b1.mono HR1.out.2.size)⟩
  have R2 := And.intro (HR1.out.1.1.later b1) (HR1.out.1.2.later b1)
  clear O1 b1 HR1 c0
  generalize w1.alloc (.cells #[.int .u8 kd] 5) = w2 at A2 R2 ⊢
  generalize w1.heap.size = g1 at A2 ⊢
  generalize hbN : w.heap.size + 1 = bN at R2 ⊢
  generalize hbM : w.heap.size = bM at R2 ⊢
  have HbN := hid_of' (And.intro hbN hbM)
  clear hbN hbM
  have hln : (fN fr).length ≤ 9 ∧ (fN ep).length ≤ 9 := ⟨fN_le (by unfold mx63; omega), fN_le hep.2⟩
  have HLN := hid_of' hln
  clear hln
  have cf : w2.cell? ⟨bM, 1, none⟩ = some (.int .i64 fr) := R2.1.cell 1
  have HF2 := hid_of' (And.intro (fun w => refFormI fr hfr.1 (by unfold mx63; omega) w) (And.intro A2 R2))
  have hp2 : 0 < (fN fr).length := List.length_pos_iff.2 (form_ne _)
  have hl2 : (([UInt8.ofNat kd.toNat]) ++ fN fr).length ≤ 1000000 := by simp only [List.length_append, List.length_cons, List.length_nil]; have := HLN.out; omega
  have HL2 := hid_of' (And.intro hp2 hl2)
  have hs2 := A2.k.size
  clear A2 R2 hp2 hl2
  go_upto_region 5 with (first
    | (go_at_call 15; refine (HF2.out.1 _).mono ?_; rintro e u2 ⟨fv, rfl, of2, hb2⟩; obtain ⟨fa, fn, fc, rfl⟩ := ownB_form of2; have O2 := ownB_later HF2.out.2.1.own hb2; have hz2 := hb2.size)
    | (at_builtin; refine wpL_appO rfl _ _ rfl rfl rfl O2 of2 HL2.out.1 HL2.out.2 (by omega) ?_; intro v3 w3 q1 q2; obtain ⟨va3, vn3, vc3, rfl⟩ := ownB_form q1))
  have A3 := HF2.out.2.1.next hb2 q1 q2
  have R3 := And.intro (HF2.out.2.1.row hb2 q2 HF2.out.2.2.1 (by decide)) (HF2.out.2.1.row hb2 q2 HF2.out.2.2.2 (by decide))
  have ce : w3.cell? ⟨bM, 2, none⟩ = some (.int .i64 ep) := R3.1.cell 2
  clear O2 of2 hb2 q1 q2 hz2 hs2
  have HF3 := hid_of' (And.intro (fun w => refFormI ep hep.1 hep.2 w) (And.intro A3 R3))
  have hp3 : 0 < (fN ep).length := List.length_pos_iff.2 (form_ne _)
  have hl3 : (([UInt8.ofNat kd.toNat] ++ fN fr) ++ fN ep).length ≤ 1000000 := by simp only [List.length_append, List.length_cons, List.length_nil]; have := HLN.out; omega
  have HL3 := hid_of' (And.intro hp3 hl3)
  have hs3 := A3.k.size
  clear A3 R3 hp3 hl3
  go_upto_region 6 with (first
    | (go_at_call 15; refine (HF3.out.1 _).mono ?_; rintro e u3 ⟨fv, rfl, of3, hb3⟩; obtain ⟨fa, fn, fc, rfl⟩ := ownB_form of3; have O3 := ownB_later HF3.out.2.1.own hb3; have hz3 := hb3.size)
    | (at_builtin; refine wpL_appO rfl _ _ rfl rfl rfl O3 of3 HL3.out.1 HL3.out.2 (by omega) ?_; intro v4 w4 q1 q2; obtain ⟨va4, vn4, vc4, rfl⟩ := ownB_form q1))
  have A4 := HF3.out.2.1.next hb3 q1 q2
  have R4 := And.intro (HF3.out.2.1.row hb3 q2 HF3.out.2.2.1 (by decide)) (HF3.out.2.1.row hb3 q2 HF3.out.2.2.2 (by decide))
  have ck4 : w4.cell? ⟨bM, 0, none⟩ = some (.int .i64 kd) := R4.1.cell 0
  clear O3 of3 hb3 q1 q2 hz3 hs3
  by_cases hk1v : kd = 1
  · have hkd : kd = 1 := hk1v
    clear hk1v
    have hk1 : haB kd = true := by rw [hkd]; rfl
    have hk2 : hrB kd = false := by rw [hkd]; rfl
    have hk3 : (kd == 2) = false := by rw [hkd]; rfl
    have HK := hid_of' (And.intro (fun w => hasActs_is hk1 w) (fun w => hasRounds_is hk2 w))
    unfold okBody at hbo
    have pa : (kd = 1 ∨ kd = 3) = True := by rw [hkd]; simp
    have pc : (kd = 2) = False := by rw [hkd]; simp
    have pr : (kd = 3 ∨ kd = 4) = False := by rw [hkd]; simp
    simp only [pa, pc, pr, if_true, if_false] at hbo
    obtain ⟨hbc, hba, hbr⟩ := hbo
    have HPA := hid_of' (And.intro pa (And.intro pc pr))
    clear hkd pa pc pr hk1 hk2
    have ca4 : w4.cell? ⟨bM, 11, none⟩ = some s := (R4.1.cell 11).trans (mv_a s HM.out.2)
    obtain ⟨sa, sn, sc, rfl⟩ : ∃ sa sn sc, s = .slice sa sn sc := by
      rcases HM.out.1 with ⟨_, a, c, rfl⟩ | ⟨g, o, c, rfl, _⟩
      · exact ⟨_, _, _, rfl⟩
      · exact ⟨_, _, _, rfl⟩
    have hln : (fN fr).length ≤ 9 ∧ (fN ep).length ≤ 9 ∧ (fActs al).length ≤ 9 + 128 * 60 := ⟨HLN.out.1, HLN.out.2, fActsL_le hba.2 hn⟩
    clear HLN
    have HLN := hid_of' hln
    clear hln
    have HF4 := hid_of' (And.intro (fun (_ : Unit) => refActs_any al (.slice sa sn sc) al.length w4 rfl hn (HM.out.1.later A4.k) hba.2) (And.intro A4 R4))
    have hp4 : 0 < (fActs al).length := (by unfold fActs; rw [List.length_append]; have := List.length_pos_iff.2 (form_ne al.length); omega)
    have hl4 : (([UInt8.ofNat kd.toNat] ++ fN fr ++ fN ep) ++ fActs al).length ≤ 1000000 := by simp only [List.length_append, List.length_cons, List.length_nil]; have := HLN.out; omega
    have HL4 := hid_of' (And.intro hp4 hl4)
    have hs4 := A4.k.size
    clear A4 R4 hp4 hl4
    go_upto_region 8 with (first
      | (go_at_call 17; refine (HF4.out.1 ()).mono ?_; rintro e u4 ⟨fv, rfl, of4, hb4⟩; obtain ⟨fa, fn, fc, rfl⟩ := ownB_form of4; have O4 := ownB_later HF4.out.2.1.own hb4; have hz4 := hb4.size)
      | (go_at_call 16; refine (HK.out.1 _).mono ?_; rintro e wz ⟨rfl, hz⟩; obtain rfl := hz.symm)
      | (at_builtin; refine wpL_appO rfl _ _ rfl rfl rfl O4 of4 HL4.out.1 HL4.out.2 (by omega) ?_; intro v5 w5 q1 q2; obtain ⟨va5, vn5, vc5, rfl⟩ := ownB_form q1))
    have A5 := HF4.out.2.1.next hb4 q1 q2
    have R5 := And.intro (HF4.out.2.1.row hb4 q2 HF4.out.2.2.1 (by decide)) (HF4.out.2.1.row hb4 q2 HF4.out.2.2.2 (by decide))
    have ck5 : w5.cell? ⟨bM, 0, none⟩ = some (.int .i64 kd) := R5.1.cell 0
    clear O4 of4 hb4 q1 q2 hz4 hs4
    have HE := hid_of' (And.intro A5 R5.2)
    clear A5
    have r2 := R5.2
    go_wp2_with (first | (go_at_call 16; refine (HK.out.1 _).mono ?_; rintro e wz ⟨rfl, hz⟩; obtain rfl := hz.symm) | (go_at_call 19; refine (HK.out.2 _).mono ?_; rintro e wz ⟨rfl, hz⟩; obtain rfl := hz.symm) | (refine wpList_buildTo rfl 37 _ rfl _ rfl #[.int .i64 0, .slice none 0 0, .slice none 0 0] built_noQ ?_) | (refine wpL_storeNo rfl _ _ rfl rfl rfl r2 ?_))
    refine bodyPost_ret (results_bn rfl rfl (r2.put (nov 0 none 0 0 none 0 0)) rfl) rfl ⟨_, rfl, ?_, below_setRow HE.out.1.k (by rw [← HbN.out.1]; exact Nat.le_succ _) _⟩
    have e : fMsg (kd, fr, ep, ct, al, rs) = [UInt8.ofNat kd.toNat] ++ fN fr ++ fN ep ++ fActs al := by
      unfold fMsg fBody
      simp only [HPA.out.1, HPA.out.2.1, HPA.out.2.2, if_true, if_false]
      simp only [List.cons_append, List.nil_append, List.append_nil, List.append_assoc]
    rw [e]
    exact ownB_setRow HE.out.1.own r2 (by decide) _
  · by_cases hk2v : kd = 2
    · have hkd : kd = 2 := hk2v
      clear hk2v
      have hk1 : haB kd = false := by rw [hkd]; rfl
      have hk2 : hrB kd = false := by rw [hkd]; rfl
      have hk3 : (kd == 2) = true := by rw [hkd]; rfl
      have HK := hid_of' (And.intro (fun w => hasActs_is hk1 w) (fun w => hasRounds_is hk2 w))
      unfold okBody at hbo
      have pa : (kd = 1 ∨ kd = 3) = False := by rw [hkd]; simp
      have pc : (kd = 2) = True := by rw [hkd]; simp
      have pr : (kd = 3 ∨ kd = 4) = False := by rw [hkd]; simp
      simp only [pa, pc, pr, if_true, if_false] at hbo
      obtain ⟨hbc, hba, hbr⟩ := hbo
      have HPA := hid_of' (And.intro pa (And.intro pc pr))
      clear hkd pa pc pr hk1 hk2
      have hln : (fN fr).length ≤ 9 ∧ (fN ep).length ≤ 9 ∧ (fRow ct).length ≤ 81 := ⟨HLN.out.1, HLN.out.2, fRow_le hbc⟩
      clear HLN
      have HLN := hid_of' hln
      clear hln
      have hc8 := hbc.1
      have cl4 : CsIn bM 3 (cv ct) w4 := by
        have := R4.1.in.sub (ds := cv ct) 3 (fun j v h => mv_ck _ _ j v h)
        rwa [Nat.zero_add] at this
      have HF4 := hid_of' (And.intro (fun w => refClock_any ct hbc w) (And.intro A4 R4))
      have hp4 : 0 < (fRow ct).length := (by unfold fRow fRowG; rw [List.length_append]; have := List.length_pos_iff.2 (form_ne (lenG nzI ct)); omega)
      have hl4 : (([UInt8.ofNat kd.toNat] ++ fN fr ++ fN ep) ++ fRow ct).length ≤ 1000000 := by simp only [List.length_append, List.length_cons, List.length_nil]; have := HLN.out; omega
      have HL4 := hid_of' (And.intro hp4 hl4)
      have hs4 := A4.k.size
      clear A4 R4 hp4 hl4
      go_upto_region 10 with (first
        | (go_at_call 18; refine (HF4.out.1 _).mono ?_; rintro e u4 ⟨fv, rfl, of4, hb4⟩; obtain ⟨fa, fn, fc, rfl⟩ := ownB_form of4; have O4 := ownB_later HF4.out.2.1.own hb4; have hz4 := hb4.size)
        | (go_at_call 16; refine (HK.out.1 _).mono ?_; rintro e wz ⟨rfl, hz⟩; obtain rfl := hz.symm)
        | (refine ld_ck hc8 rfl _ rfl rfl cl4 ?_)
        | (at_builtin; refine wpL_appO rfl _ _ rfl rfl rfl O4 of4 HL4.out.1 HL4.out.2 (by omega) ?_; intro v5 w5 q1 q2; obtain ⟨va5, vn5, vc5, rfl⟩ := ownB_form q1))
      have A5 := HF4.out.2.1.next hb4 q1 q2
      have R5 := And.intro (HF4.out.2.1.row hb4 q2 HF4.out.2.2.1 (by decide)) (HF4.out.2.1.row hb4 q2 HF4.out.2.2.2 (by decide))
      have ck5 : w5.cell? ⟨bM, 0, none⟩ = some (.int .i64 kd) := R5.1.cell 0
      clear O4 of4 hb4 q1 q2 hz4 hs4
      have HE := hid_of' (And.intro A5 R5.2)
      clear A5
      have r2 := R5.2
      go_wp2_with (first | (go_at_call 16; refine (HK.out.1 _).mono ?_; rintro e wz ⟨rfl, hz⟩; obtain rfl := hz.symm) | (go_at_call 19; refine (HK.out.2 _).mono ?_; rintro e wz ⟨rfl, hz⟩; obtain rfl := hz.symm) | (refine wpList_buildTo rfl 37 _ rfl _ rfl #[.int .i64 0, .slice none 0 0, .slice none 0 0] built_noQ ?_) | (refine wpL_storeNo rfl _ _ rfl rfl rfl r2 ?_))
      refine bodyPost_ret (results_bn rfl rfl (r2.put (nov 0 none 0 0 none 0 0)) rfl) rfl ⟨_, rfl, ?_, below_setRow HE.out.1.k (by rw [← HbN.out.1]; exact Nat.le_succ _) _⟩
      have e : fMsg (kd, fr, ep, ct, al, rs) = [UInt8.ofNat kd.toNat] ++ fN fr ++ fN ep ++ fRow ct := by
        unfold fMsg fBody
        simp only [HPA.out.1, HPA.out.2.1, HPA.out.2.2, if_true, if_false]
        simp only [List.cons_append, List.nil_append, List.append_nil, List.append_assoc]
      rw [e]
      exact ownB_setRow HE.out.1.own r2 (by decide) _
    · by_cases hk3v : kd = 3
      · have hkd : kd = 3 := hk3v
        clear hk3v
        have hk1 : haB kd = true := by rw [hkd]; rfl
        have hk2 : hrB kd = true := by rw [hkd]; rfl
        have hk3 : (kd == 2) = false := by rw [hkd]; rfl
        have HK := hid_of' (And.intro (fun w => hasActs_is hk1 w) (fun w => hasRounds_is hk2 w))
        unfold okBody at hbo
        have pa : (kd = 1 ∨ kd = 3) = True := by rw [hkd]; simp
        have pc : (kd = 2) = False := by rw [hkd]; simp
        have pr : (kd = 3 ∨ kd = 4) = True := by rw [hkd]; simp
        simp only [pa, pc, pr, if_true, if_false] at hbo
        obtain ⟨hbc, hba, hbr⟩ := hbo
        have HPA := hid_of' (And.intro pa (And.intro pc pr))
        clear hkd pa pc pr hk1 hk2
        have ca4 : w4.cell? ⟨bM, 11, none⟩ = some s := (R4.1.cell 11).trans (mv_a s HM.out.2)
        obtain ⟨sa, sn, sc, rfl⟩ : ∃ sa sn sc, s = .slice sa sn sc := by
          rcases HM.out.1 with ⟨_, a, c, rfl⟩ | ⟨g, o, c, rfl, _⟩
          · exact ⟨_, _, _, rfl⟩
          · exact ⟨_, _, _, rfl⟩
        have hln : (fN fr).length ≤ 9 ∧ (fN ep).length ≤ 9 ∧ (fActs al).length ≤ 9 + 128 * 60 := ⟨HLN.out.1, HLN.out.2, fActsL_le hba.2 hn⟩
        clear HLN
        have HLN := hid_of' hln
        clear hln
        have HF4 := hid_of' (And.intro (fun (_ : Unit) => refActs_any al (.slice sa sn sc) al.length w4 rfl hn (HM.out.1.later A4.k) hba.2) (And.intro A4 R4))
        have hp4 : 0 < (fActs al).length := (by unfold fActs; rw [List.length_append]; have := List.length_pos_iff.2 (form_ne al.length); omega)
        have hl4 : (([UInt8.ofNat kd.toNat] ++ fN fr ++ fN ep) ++ fActs al).length ≤ 1000000 := by simp only [List.length_append, List.length_cons, List.length_nil]; have := HLN.out; omega
        have HL4 := hid_of' (And.intro hp4 hl4)
        have hs4 := A4.k.size
        clear A4 R4 hp4 hl4
        go_upto_region 8 with (first
          | (go_at_call 17; refine (HF4.out.1 ()).mono ?_; rintro e u4 ⟨fv, rfl, of4, hb4⟩; obtain ⟨fa, fn, fc, rfl⟩ := ownB_form of4; have O4 := ownB_later HF4.out.2.1.own hb4; have hz4 := hb4.size)
          | (go_at_call 16; refine (HK.out.1 _).mono ?_; rintro e wz ⟨rfl, hz⟩; obtain rfl := hz.symm)
          | (at_builtin; refine wpL_appO rfl _ _ rfl rfl rfl O4 of4 HL4.out.1 HL4.out.2 (by omega) ?_; intro v5 w5 q1 q2; obtain ⟨va5, vn5, vc5, rfl⟩ := ownB_form q1))
        have A5 := HF4.out.2.1.next hb4 q1 q2
        have R5 := And.intro (HF4.out.2.1.row hb4 q2 HF4.out.2.2.1 (by decide)) (HF4.out.2.1.row hb4 q2 HF4.out.2.2.2 (by decide))
        have ck5 : w5.cell? ⟨bM, 0, none⟩ = some (.int .i64 kd) := R5.1.cell 0
        clear O4 of4 hb4 q1 q2 hz4 hs4
        have hln : (fN fr).length ≤ 9 ∧ (fN ep).length ≤ 9 ∧ (fActs al).length ≤ 9 + 128 * 60 ∧ (fRnds rs).length ≤ 9 + 180 * 8 := ⟨HLN.out.1, HLN.out.2.1, HLN.out.2.2, fRndsL_le hbr⟩
        clear HLN
        have HLN := hid_of' hln
        clear hln
        have hrs : shRs rs := ⟨hbr.1, fun r hr => okRnd_shF (hbr.2 r hr)⟩
        have cl5 : CsIn bM 12 (rsv rs) w5 := by
          have := R5.1.in.sub (ds := rsv rs) 12 (fun j v h => mv_rs _ HM.out.2 j v h)
          rwa [Nat.zero_add] at this
        have HF5 := hid_of' (And.intro (fun w => refRounds_bytes rs w hbr) (And.intro A5 R5))
        have hp5 : 0 < (fRnds rs).length := (by unfold fRnds fRowG; rw [List.length_append]; have := List.length_pos_iff.2 (form_ne (lenG nzR rs)); omega)
        have hl5 : (([UInt8.ofNat kd.toNat] ++ fN fr ++ fN ep ++ fActs al) ++ fRnds rs).length ≤ 1000000 := by simp only [List.length_append, List.length_cons, List.length_nil]; have := HLN.out; omega
        have HL5 := hid_of' (And.intro hp5 hl5)
        have hs5 := A5.k.size
        clear A5 R5 hp5 hl5
        go_upto_region 12 with (first
          | (go_at_call 20; refine (HF5.out.1 _).mono ?_; rintro e u5 ⟨fv, rfl, of5, hb5⟩; obtain ⟨fa, fn, fc, rfl⟩ := ownB_form of5; have O5 := ownB_later HF5.out.2.1.own hb5; have hz5 := hb5.size)
          | (go_at_call 16; refine (HK.out.1 _).mono ?_; rintro e wz ⟨rfl, hz⟩; obtain rfl := hz.symm)
          | (go_at_call 19; refine (HK.out.2 _).mono ?_; rintro e wz ⟨rfl, hz⟩; obtain rfl := hz.symm)
          | (refine ld_rnds hrs rfl _ rfl rfl cl5 ?_)
          | (at_builtin; refine wpL_appO rfl _ _ rfl rfl rfl O5 of5 HL5.out.1 HL5.out.2 (by omega) ?_; intro v6 w6 q1 q2; obtain ⟨va6, vn6, vc6, rfl⟩ := ownB_form q1))
        have A6 := HF5.out.2.1.next hb5 q1 q2
        have R6 := And.intro (HF5.out.2.1.row hb5 q2 HF5.out.2.2.1 (by decide)) (HF5.out.2.1.row hb5 q2 HF5.out.2.2.2 (by decide))
        clear O5 of5 hb5 q1 q2 hz5 hs5
        have HE := hid_of' (And.intro A6 R6.2)
        clear A6
        have r2 := R6.2
        go_wp2_with (first | (go_at_call 16; refine (HK.out.1 _).mono ?_; rintro e wz ⟨rfl, hz⟩; obtain rfl := hz.symm) | (go_at_call 19; refine (HK.out.2 _).mono ?_; rintro e wz ⟨rfl, hz⟩; obtain rfl := hz.symm) | (refine wpList_buildTo rfl 37 _ rfl _ rfl #[.int .i64 0, .slice none 0 0, .slice none 0 0] built_noQ ?_) | (refine wpL_storeNo rfl _ _ rfl rfl rfl r2 ?_))
        refine bodyPost_ret (results_bn rfl rfl (r2.put (nov 0 none 0 0 none 0 0)) rfl) rfl ⟨_, rfl, ?_, below_setRow HE.out.1.k (by rw [← HbN.out.1]; exact Nat.le_succ _) _⟩
        have e : fMsg (kd, fr, ep, ct, al, rs) = [UInt8.ofNat kd.toNat] ++ fN fr ++ fN ep ++ fActs al ++ fRnds rs := by
          unfold fMsg fBody
          simp only [HPA.out.1, HPA.out.2.1, HPA.out.2.2, if_true, if_false]
          simp only [List.cons_append, List.nil_append, List.append_assoc]
        rw [e]
        exact ownB_setRow HE.out.1.own r2 (by decide) _
      · have hkd : kd = 4 := by omega
        clear hk1v hk2v hk3v
        have hk1 : haB kd = false := by rw [hkd]; rfl
        have hk2 : hrB kd = true := by rw [hkd]; rfl
        have hk3 : (kd == 2) = false := by rw [hkd]; rfl
        have HK := hid_of' (And.intro (fun w => hasActs_is hk1 w) (fun w => hasRounds_is hk2 w))
        unfold okBody at hbo
        have pa : (kd = 1 ∨ kd = 3) = False := by rw [hkd]; simp
        have pc : (kd = 2) = False := by rw [hkd]; simp
        have pr : (kd = 3 ∨ kd = 4) = True := by rw [hkd]; simp
        simp only [pa, pc, pr, if_true, if_false] at hbo
        obtain ⟨hbc, hba, hbr⟩ := hbo
        have HPA := hid_of' (And.intro pa (And.intro pc pr))
        clear hkd pa pc pr hk1 hk2
        have hln : (fN fr).length ≤ 9 ∧ (fN ep).length ≤ 9 ∧ (fRnds rs).length ≤ 9 + 180 * 8 := ⟨HLN.out.1, HLN.out.2, fRndsL_le hbr⟩
        clear HLN
        have HLN := hid_of' hln
        clear hln
        have hrs : shRs rs := ⟨hbr.1, fun r hr => okRnd_shF (hbr.2 r hr)⟩
        have cl4 : CsIn bM 12 (rsv rs) w4 := by
          have := R4.1.in.sub (ds := rsv rs) 12 (fun j v h => mv_rs _ HM.out.2 j v h)
          rwa [Nat.zero_add] at this
        have HF4 := hid_of' (And.intro (fun w => refRounds_bytes rs w hbr) (And.intro A4 R4))
        have hp4 : 0 < (fRnds rs).length := (by unfold fRnds fRowG; rw [List.length_append]; have := List.length_pos_iff.2 (form_ne (lenG nzR rs)); omega)
        have hl4 : (([UInt8.ofNat kd.toNat] ++ fN fr ++ fN ep) ++ fRnds rs).length ≤ 1000000 := by simp only [List.length_append, List.length_cons, List.length_nil]; have := HLN.out; omega
        have HL4 := hid_of' (And.intro hp4 hl4)
        have hs4 := A4.k.size
        clear A4 R4 hp4 hl4
        go_upto_region 12 with (first
          | (go_at_call 20; refine (HF4.out.1 _).mono ?_; rintro e u4 ⟨fv, rfl, of4, hb4⟩; obtain ⟨fa, fn, fc, rfl⟩ := ownB_form of4; have O4 := ownB_later HF4.out.2.1.own hb4; have hz4 := hb4.size)
          | (go_at_call 16; refine (HK.out.1 _).mono ?_; rintro e wz ⟨rfl, hz⟩; obtain rfl := hz.symm)
          | (go_at_call 19; refine (HK.out.2 _).mono ?_; rintro e wz ⟨rfl, hz⟩; obtain rfl := hz.symm)
          | (refine ld_rnds hrs rfl _ rfl rfl cl4 ?_)
          | (at_builtin; refine wpL_appO rfl _ _ rfl rfl rfl O4 of4 HL4.out.1 HL4.out.2 (by omega) ?_; intro v5 w5 q1 q2; obtain ⟨va5, vn5, vc5, rfl⟩ := ownB_form q1))
        have A5 := HF4.out.2.1.next hb4 q1 q2
        have R5 := And.intro (HF4.out.2.1.row hb4 q2 HF4.out.2.2.1 (by decide)) (HF4.out.2.1.row hb4 q2 HF4.out.2.2.2 (by decide))
        clear O4 of4 hb4 q1 q2 hz4 hs4
        have HE := hid_of' (And.intro A5 R5.2)
        clear A5
        have r2 := R5.2
        go_wp2_with (first | (go_at_call 16; refine (HK.out.1 _).mono ?_; rintro e wz ⟨rfl, hz⟩; obtain rfl := hz.symm) | (go_at_call 19; refine (HK.out.2 _).mono ?_; rintro e wz ⟨rfl, hz⟩; obtain rfl := hz.symm) | (refine wpList_buildTo rfl 37 _ rfl _ rfl #[.int .i64 0, .slice none 0 0, .slice none 0 0] built_noQ ?_) | (refine wpL_storeNo rfl _ _ rfl rfl rfl r2 ?_))
        refine bodyPost_ret (results_bn rfl rfl (r2.put (nov 0 none 0 0 none 0 0)) rfl) rfl ⟨_, rfl, ?_, below_setRow HE.out.1.k (by rw [← HbN.out.1]; exact Nat.le_succ _) _⟩
        have e : fMsg (kd, fr, ep, ct, al, rs) = [UInt8.ofNat kd.toNat] ++ fN fr ++ fN ep ++ fRnds rs := by
          unfold fMsg fBody
          simp only [HPA.out.1, HPA.out.2.1, HPA.out.2.2, if_true, if_false]
          simp only [List.cons_append, List.nil_append, List.append_assoc]
        rw [e]
        exact ownB_setRow HE.out.1.own r2 (by decide) _
end Go.Proofs.YteffpnjgchihpaaGreatDoor
