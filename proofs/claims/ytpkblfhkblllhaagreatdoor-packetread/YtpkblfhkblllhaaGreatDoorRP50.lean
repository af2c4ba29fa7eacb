
/-
  barrowref09.Read.
-/
import Derived.Test.YtpkblfhkblllhaaGreatDoorRP49
namespace Go.Proofs.YtpkblfhkblllhaaGreatDoor
open Go.RowKit Go.Extern.Stop Go.Stop Go.Extern
set_option maxRecDepth 100000

def haQ (k : Int) : Bool := k == 1 || k == 3
def hrQ (k : Int) : Bool := k == 3 || k == 4
theorem hasA_is {k : Int} {v : Bool} (h : haQ k = v) (w : World) : Calls Tryz.prog 17 #[.int .i64 k] w fun e w' => e = .returned (.bool v) ∧ w' = w := by
  subst h
  unfold haQ
  by_cases h1 : k = 1
  · subst h1
    go_enter Tryz.func17, Tryz.ntmps17
    go_wp2
    go_ret
    exact ⟨rfl, rfl⟩
  · have e1 : (k == 1) = false := by rw [beq_eq_false_iff_ne]; exact h1
    go_enter Tryz.func17, Tryz.ntmps17
    go_wp2
    go_ret
    simp [e1]
theorem hasR_is {k : Int} {v : Bool} (h : hrQ k = v) (w : World) : Calls Tryz.prog 20 #[.int .i64 k] w fun e w' => e = .returned (.bool v) ∧ w' = w := by
  subst h
  unfold hrQ
  by_cases h1 : k = 3
  · subst h1
    go_enter Tryz.func20, Tryz.ntmps20
    go_wp2
    go_ret
    exact ⟨rfl, rfl⟩
  · have e1 : (k == 3) = false := by rw [beq_eq_false_iff_ne]; exact h1
    go_enter Tryz.func20, Tryz.ntmps20
    go_wp2
    go_ret
    simp [e1]
theorem acts_sh (bs : List UInt8) : ∀ m s, ∀ a ∈ (PS.acts bs m s).1, shA a
  | 0, _, _, h => by simp [PS.acts] at h
  | m + 1, s, a, h => by
    unfold PS.acts at h
    split at h
    · simp at h
    · rcases List.mem_cons.1 h with e | e
      · subst e
        exact clock_len bs _
      · exact acts_sh bs m _ a e
theorem acts_pxC {pb xb : Nat} {v : Value} {bs : List UInt8} {s : PS} {w : World} (h : PxAt pb xb v bs s w) :
    Calls Tryz.prog 18 #[.pointer (some ⟨pb, 0, none⟩)] w fun e w' => ∃ row, e = .returned row ∧ PxAt pb xb v bs (s.actsC bs).2 w' ∧ Kept [pb, xb] w w' ∧
      Rw 76 13 row (s.actsC bs).1.length (acsl (s.actsC bs).1) w' ∧ (∀ g, row.ownBlock = some g → w.heap.size ≤ g) ∧ ∀ a ∈ (s.actsC bs).1, shA a :=
  (acts_px h).mono fun _ _ ⟨row, h1, h2, h3, h4, h5⟩ => ⟨row, h1, h2, h3, h4, h5, acts_sh bs _ _⟩
/-- What the document's Read answers. -/
def RrQ (bs : List UInt8) (w : World) (e : Ending) (w' : World) : Prop := ∃ (m : Pms) (sv : Value) (no : Array Value), e = .returned (.tuple #[.agg (mv m sv), .agg no]) ∧ NoQ (PS.all bs).2 (.agg no) w' ∧ Below w.heap.size w w' ∧ shM m ∧ Rw 76 13 sv m.2.2.2.2.1.length (acsl m.2.2.2.2.1) w' ∧ (∀ g, sv.ownBlock = some g → w.heap.size ≤ g) ∧ m = if (PS.all bs).2.bad then zM else (PS.all bs).1
set_option maxHeartbeats 8000000 in
theorem refRead_px {rv : Value} {bs : List UInt8} {w : World} (hv : SlB w rv bs) (hlen : bs.length ≤ 1000000) :
    Calls Tryz.prog 5 #[rv] w (RrQ bs w) := by
  have hvw : ∀ g o n c, rv = .slice (some ⟨g, o, none⟩) n c → 0 < n → g < w.heap.size := fun g o n c e h0 => by
    rcases hv with ⟨rfl, a, c', e'⟩ | ⟨g', o', c', e', hg', _⟩
    · rw [e'] at e; cases e; simp at h0
    · rw [e'] at e; cases e; exact hg'
  obtain ⟨va, vn, vc, rfl⟩ : ∃ va vn vc, rv = .slice va vn vc := by
    rcases hv with ⟨_, a, c', e'⟩ | ⟨g', o', c', e', _, _⟩
    · exact ⟨_, _, _, e'⟩
    · exact ⟨_, _, _, e'⟩
  have hB := bgo (below_one w (.cells (mv zM (.slice none 0 0)) 33)) (below_one _ (.cells #[.int .i64 0, .slice none 0 0, .slice none 0 0] 37))
  have hr0 : RowAt w.heap.size (mv zM (.slice none 0 0)) 33 ((w.alloc (.cells (mv zM (.slice none 0 0)) 33)).alloc (.cells #[.int .i64 0, .slice none 0 0, .slice none 0 0] 37)) := (RowAt.new w _ _).later (below_one _ _)
  have hr1 : RowAt (w.heap.size + 1) #[.int .i64 0, .slice none 0 0, .slice none 0 0] 37 ((w.alloc (.cells (mv zM (.slice none 0 0)) 33)).alloc (.cells #[.int .i64 0, .slice none 0 0, .slice none 0 0] 37)) := by
    have := RowAt.new (w.alloc (.cells (mv zM (.slice none 0 0)) 33)) #[.int .i64 0, .slice none 0 0, .slice none 0 0] 37
    simpa using this
  have hsz : ((w.alloc (.cells (mv zM (.slice none 0 0)) 33)).alloc (.cells #[.int .i64 0, .slice none 0 0, .slice none 0 0] 37)).heap.size = w.heap.size + 2 := by simp
  go_enter Tryz.func5, Tryz.ntmps5
  go_upto_region 1 with (first | (refine wpL_allocQ rfl _ rfl zero_msQ ?_; go_simp) | (refine wpL_allocQ rfl _ rfl zero_noQ ?_; go_simp))
  generalize (w.alloc (.cells (mv zM (.slice none 0 0)) 33)).alloc (.cells #[.int .i64 0, .slice none 0 0, .slice none 0 0] 37) = wA at hB hr0 hr1 hsz ⊢
  go_upto_region 3 with (refine wpL_allocQ rfl _ rfl zero_msQ ?_; go_simp)
  have x1 := RowAt.new wA #[.slice va vn vc, .int .i64 0, .int .i64 0, .slice none 0 0, .slice none 0 0] 54
  have b1 := below_one wA (.cells #[.slice va vn vc, .int .i64 0, .int .i64 0, .slice none 0 0, .slice none 0 0] 54)
  have hs1 : (wA.alloc (.cells #[.slice va vn vc, .int .i64 0, .int .i64 0, .slice none 0 0, .slice none 0 0] 54)).heap.size = w.heap.size + 2 + 1 := by simp [hsz]
  rw [hsz] at x1
  generalize wA.alloc (.cells #[.slice va vn vc, .int .i64 0, .int .i64 0, .slice none 0 0, .slice none 0 0] 54) = wB at x1 b1 hs1 ⊢
  have x2 := RowAt.new wB #[.pointer (some ⟨w.heap.size + 2, 0, none⟩), .bool false, .int .i64 0] 56
  have b2 := below_one wB (.cells #[.pointer (some ⟨w.heap.size + 2, 0, none⟩), .bool false, .int .i64 0] 56)
  have hs2 : (wB.alloc (.cells #[.pointer (some ⟨w.heap.size + 2, 0, none⟩), .bool false, .int .i64 0] 56)).heap.size = w.heap.size + 2 + 1 + 1 := by simp [hs1]
  rw [hs1] at x2
  generalize wB.alloc (.cells #[.pointer (some ⟨w.heap.size + 2, 0, none⟩), .bool false, .int .i64 0] 56) = wC at x2 b2 hs2 ⊢
  have x3 := RowAt.new wC (mv zM (.slice none 0 0)) 33
  have b3 := below_one wC (.cells (mv zM (.slice none 0 0)) 33)
  rw [hs2] at x3
  generalize wC.alloc (.cells (mv zM (.slice none 0 0)) 33) = w0 at x3 b3 ⊢
  have b23 := bgo b2 b3
  have b13 := bgo b1 b23
  obtain ⟨s0, hs0⟩ : ∃ s0 : PS, s0 = ⟨0, none, none⟩ := ⟨_, rfl⟩
  have A0 : MsB w (w.heap.size + 2 + 1) (w.heap.size + 2) (w.heap.size + 2 + 1 + 1) w.heap.size (w.heap.size + 1) (.slice va vn vc) bs ((0, 0, 0, zero8, [], zeroRs) : Pms) (.slice none 0 0) s0 w0 := by
    rw [hs0]
    exact ⟨⟨x2.later b3, ⟨_, _, _, ⟨⟨x1.later b23, hv.grow (hB.trans (b13.mono (by omega))), Nat.zero_le _, hlen⟩, ⟨rfl, rfl, rfl⟩, fun g o n c e h0 => by have := hvw g o n c e h0; omega⟩⟩, fun g o n c e h0 => by have := hvw g o n c e h0; omega⟩, x3, shM_z, Rw.nil _ _ _, (fun g e => by cases e), hr0.later b13, hr1.later b13, ⟨Nat.le_refl _, by omega, by omega, by omega, by omega⟩, hB.trans (b13.mono (by omega)), hvw⟩
  have HS0 := hid_of' hs0
  clear x1 x2 x3 b1 b2 b3 b23 b13 hs1 hs2 hsz hs0 hB hr0 hr1 hv hvw
  generalize w.heap.size + 2 + 1 + 1 = mb at A0 ⊢
  generalize w.heap.size + 2 + 1 = pb at A0 ⊢
  generalize w.heap.size + 2 = xb at A0 ⊢
  generalize w.heap.size + 1 = rb at A0 ⊢
  generalize w.heap.size = ra at A0 ⊢
  obtain ⟨z0, S0, e0⟩ : ∃ z s, PS.byte bs s0 1 4 = (z, s) := ⟨_, _, rfl⟩
  have H0 := byte_px A0.px 1 4
  rw [e0] at H0
  dsimp only at H0
  have HC0 := hid_of' (And.intro H0 A0)
  have E0 := hid_of' e0
  clear H0 A0 e0
  go_upto_region 4 with (go_at_call 15; refine HC0.out.1.mono ?_; rintro e u0 ⟨rfl, hp0, hk0⟩; have B0 := HC0.out.2.call hp0 hk0; have q0 : u0.cell? ⟨mb, 0, none⟩ = some (.int .i64 0) := (B0.at 0).1; have f0 := (B0.at 0).2)
  have A1 : MsB w pb xb mb ra rb (.slice va vn vc) bs ((z0, 0, 0, zero8, [], zeroRs) : Pms) (.slice none 0 0) S0 (u0.setCell ⟨mb, 0, none⟩ (.int .i64 z0)) := B0.set 0 (.int .i64 z0) (mvq_set0 _ _ _) B0.sh B0.a B0.ow
  generalize u0.setCell ⟨mb, 0, none⟩ (.int .i64 z0) = w1 at A1 ⊢
  clear B0 q0 f0 hp0 hk0
  obtain ⟨z1, S1, e1⟩ : ∃ z s, PS.number bs S0 7 = (z, s) := ⟨_, _, rfl⟩
  have H1 := number_px A1.px 7
  rw [e1] at H1
  dsimp only at H1
  have HC1 := hid_of' (And.intro H1 A1)
  have E1 := hid_of' e1
  clear H1 A1 e1
  go_upto_region 5 with (go_at_call 16; refine HC1.out.1.mono ?_; rintro e u1 ⟨rfl, hp1, hk1⟩; have B1 := HC1.out.2.call hp1 hk1; have q1 : u1.cell? ⟨mb, 1, none⟩ = some (.int .i64 0) := (B1.at 1).1; have f1 := (B1.at 1).2)
  have A2 : MsB w pb xb mb ra rb (.slice va vn vc) bs ((z0, z1, 0, zero8, [], zeroRs) : Pms) (.slice none 0 0) S1 (u1.setCell ⟨mb, 1, none⟩ (.int .i64 z1)) := B1.set 1 (.int .i64 z1) (mvq_set1 _ _ _) B1.sh B1.a B1.ow
  generalize u1.setCell ⟨mb, 1, none⟩ (.int .i64 z1) = w2 at A2 ⊢
  clear B1 q1 f1 hp1 hk1
  obtain ⟨z2, S2, e2⟩ : ∃ z s, PS.number bs S1 9223372036854775807 = (z, s) := ⟨_, _, rfl⟩
  have H2 := number_px A2.px 9223372036854775807
  rw [e2] at H2
  dsimp only at H2
  have HC2 := hid_of' (And.intro H2 A2)
  have E2 := hid_of' e2
  clear H2 A2 e2
  go_upto_region 6 with (go_at_call 16; refine HC2.out.1.mono ?_; rintro e u2 ⟨rfl, hp2, hk2⟩; have B2 := HC2.out.2.call hp2 hk2; have q2 : u2.cell? ⟨mb, 2, none⟩ = some (.int .i64 0) := (B2.at 2).1; have f2 := (B2.at 2).2)
  have A3 : MsB w pb xb mb ra rb (.slice va vn vc) bs ((z0, z1, z2, zero8, [], zeroRs) : Pms) (.slice none 0 0) S2 (u2.setCell ⟨mb, 2, none⟩ (.int .i64 z2)) := B2.set 2 (.int .i64 z2) (mvq_set2 _ _ _) B2.sh B2.a B2.ow
  generalize u2.setCell ⟨mb, 2, none⟩ (.int .i64 z2) = w3 at A3 ⊢
  clear B2 q2 f2 hp2 hk2
  by_cases h1 : z0 = 1
  · have hz : z0 = 1 := h1
    have hka : haQ z0 = true := by rw [hz]; rfl
    have hkr : hrQ z0 = false := by rw [hz]; rfl
    have hk2 : (z0 == 2) = false := by rw [hz]; rfl
    have pa : (z0 = 1 ∨ z0 = 3) = True := by rw [hz]; simp
    have pc : (z0 = 2) = False := by rw [hz]; simp
    have pr : (z0 = 3 ∨ z0 = 4) = False := by rw [hz]; simp
    have HZ := hid_of' (And.intro pa (And.intro pc pr))
    clear pa pc pr hz h1
    have q0 : w3.cell? ⟨mb, 0, none⟩ = some (.int .i64 z0) := (A3.at 0).1
    have HF := hid_of' (And.intro (fun w => hasA_is hka w) (fun w => hasR_is hkr w))
    obtain ⟨lz, S3, e3⟩ : ∃ z s, PS.actsC bs S2 = (z, s) := ⟨_, _, rfl⟩
    have H3 := acts_pxC A3.px
    rw [e3] at H3
    dsimp only at H3
    have HC3 := hid_of' (And.intro H3 A3)
    have E3 := hid_of' e3
    clear H3 A3 e3
    go_upto_region 8 with (first | (go_at_call 17; refine (HF.out.1 _).mono ?_; rintro e wz ⟨rfl, hz⟩; obtain rfl := hz.symm) | (go_at_call 18; refine HC3.out.1.mono ?_; rintro e u3 ⟨row, rfl, hp3, hk3, hrw3, how3, hsh3⟩; obtain ⟨la, lc, rfl, _, _⟩ := hrw3.form; have B3 := HC3.out.2.call hp3 hk3; have q3 : u3.cell? ⟨mb, 11, none⟩ = some (.slice none 0 0) := (B3.at 11).1; have f3 := (B3.at 11).2))
    have hs4 : shM ((z0, z1, z2, zero8, lz, zeroRs) : Pms) := ⟨rfl, hsh3, B3.sh.2.2⟩
    have A4 : MsB w pb xb mb ra rb (.slice va vn vc) bs ((z0, z1, z2, zero8, lz, zeroRs) : Pms) (.slice la lz.length lc) S3 (u3.setCell ⟨mb, 11, none⟩ (.slice la lz.length lc)) := B3.set 11 (.slice la lz.length lc) (mv_set11 B3.sh _ _ lz) hs4 hrw3 (fun g hg => Nat.lt_of_lt_of_le HC3.out.2.x.lt (how3 g hg))
    generalize u3.setCell ⟨mb, 11, none⟩ (.slice la lz.length lc) = w4 at A4 ⊢
    have q0' : w4.cell? ⟨mb, 0, none⟩ = some (.int .i64 z0) := (A4.at 0).1
    clear B3 q3 f3 hp3 hk3 hrw3 how3 hsh3 hs4 q0
    go_upto_region 12 with (first | (go_at_call 17; refine (HF.out.1 _).mono ?_; rintro e wz ⟨rfl, hz⟩; obtain rfl := hz.symm) | (go_at_call 20; refine (HF.out.2 _).mono ?_; rintro e wz ⟨rfl, hz⟩; obtain rfl := hz.symm))
    have hall : PS.msg bs s0 = (((z0, z1, z2, zero8, lz, zeroRs) : Pms), S3) := by
      unfold PS.msg
      rw [E0.out]
      dsimp only
      rw [E1.out]
      dsimp only
      rw [show PS.number bs S1 mx63 = (z2, S2) from E2.out]
      dsimp only
      unfold PS.body
      simp only [HZ.out.1, HZ.out.2.1, HZ.out.2.2, if_true, if_false]
      rw [E3.out]
    have hfin : PS.all bs = (((z0, z1, z2, zero8, lz, zeroRs) : Pms), S3.fin bs) := by
      unfold PS.all
      rw [← HS0.out, hall]
    have hend := end_px A4.px
    have HD := hid_of' (And.intro hend A4)
    have HFN := hid_of' hfin
    clear hend A4 hall hfin
    go_upto_region 13 with (first
      | (go_at_call 22; refine HD.out.1.mono ?_; rintro e u9 ⟨no, rfl, hq9, hk9⟩; obtain ⟨c9, a9, n9, k9, a9', n9', k9', rfl, hc9⟩ := hq9.code)
      | (refine wpL_stNew rfl 37 _ _ rfl rfl rfl (cs := nov c9 a9 n9 k9 a9' n9' k9') rfl size_No rfl (by simp [nov, Value.oneCell']) ?_))
    have h9 : ∃ (wz : World), wz = u9.alloc (.cells (nov c9 a9 n9 k9 a9' n9' k9') 37) := ⟨_, rfl⟩
    obtain ⟨wz, hwz⟩ := h9
    have b9 := below_one u9 (.cells (nov c9 a9 n9 k9 a9' n9' k9') 37)
    have hn9 : RowAt u9.heap.size (nov c9 a9 n9 k9 a9' n9' k9') 37 wz := by rw [hwz]; exact RowAt.new u9 _ _
    rw [← hwz] at b9 ⊢
    have HM9 := (HD.out.2.done hk9).later b9
    have hq := hq9.later b9
    have hne := HM9.od
    have hnb : u9.heap.size < wz.heap.size := hn9.lt
    have hmb := (HD.out.2.done hk9).x.lt
    have HQ := hid_of' (And.intro hq hc9)
    clear hwz b9 hq hc9 hq9 hk9
    generalize u9.heap.size = nb at hn9 hmb hnb ⊢
    have d0 : wz.cell? ⟨nb, 0, none⟩ = some (.int .i64 c9) := hn9.cell 0
    have HA := hid_of' HM9
    have HN := hid_of' (And.intro hn9 (And.intro (show nb ∉ [rb] by simp; omega) (And.intro (show nb ∉ [ra] by simp; omega) (And.intro (show mb ∉ [ra] by simp; omega) (show rb ∉ [ra] by simp; omega)))))
    clear HM9 hn9
    cases hbad : (S3.fin bs).bad with
    | true =>
      have hc0 : (c9 != 0) = true := HQ.out.2.trans hbad
      go_upto_region 14 with fail
      refine wp_region_once 3 (by kernel_rfl) (fun _ => none) (by kernel_rfl) (by kernel_rfl) (by decide) (fun i v x => match i with
        | 0 => v = .agg (mv zM (.slice none 0 0))
        | 1 => v = .agg (nov c9 a9 n9 k9 a9' n9' k9')
        | 2 => RowAt ra (mv zM (.slice none 0 0)) 33 x
        | _ => True) (fun _ => false) (fun _ _ _ _ h => by cases h) 2 (by decide) (fun a b => Kept [ra] a b) (fun a b => Kept [ra] a b) (fun _ _ g h => g.trans (.of h)) (fun _ h => .of h) (fun _ _ h g => (Kept.of h).trans g) (fun _ _ g => g.size) ?_ ?_ ?_ ?_
      · intro i v x x' hR hb
        match i, hR with
        | 0, h => exact h
        | 1, h => exact h
        | 2, h => exact h.later hb
        | m + 3, h => exact h
      · intro i v x x' hne hR hb
        match i, hne, hR with
        | 0, hne, h => exact h
        | 1, hne, h => exact h
        | 2, hne, h => exact absurd rfl hne
        | m + 3, _, h => exact h
      · intro i o hi ho q x vals hX hC hdep hoth
        have t2 : q.tmps[2]? = some (.pointer (some ⟨ra, 0, none⟩)) := by rw [hoth 2 (by kernel_rfl)]; rfl
        have t3 : q.tmps[3]? = some (.pointer (some ⟨rb, 0, none⟩)) := by rw [hoth 3 (by kernel_rfl)]; rfl
        have t5 : q.tmps[5]? = some (.pointer (some ⟨mb, 0, none⟩)) := by rw [hoth 5 (by kernel_rfl)]; rfl
        have t6 : q.tmps[6]? = some (.pointer (some ⟨nb, 0, none⟩)) := by rw [hoth 6 (by kernel_rfl)]; rfl
        match i, hi, ho, hC with
        | 0, _, ho, hC =>
          simp only [List.getElem?_cons_zero, Option.some.injEq] at ho
          subst ho
          refine opw_bldMs rfl ?_
          exact cameB _ rfl (by decide) (Below.refl _ _) rfl (fun h => absurd h (by decide))
        | 1, _, ho, hC =>
          simp only [List.getElem?_cons_succ, List.getElem?_cons_zero, Option.some.injEq] at ho
          subst ho
          refine opw_ldNo _ rfl (by simp [Act.eval, t6]) (HN.out.1.kept hX HN.out.2.2.1).in ?_
          exact cameB _ rfl (by decide) (Below.refl _ _) rfl (fun h => absurd h (by decide))
        | 2, _, ho, hC =>
          simp only [List.getElem?_cons_succ, List.getElem?_cons_zero, Option.some.injEq] at ho
          subst ho
          obtain ⟨u0, e0⟩ := hdep ⟨0, .data⟩ (by simp) rfl _ 44 rfl rfl
          rw [show vals 0 = .agg (mv zM (.slice none 0 0)) from e0] at u0
          have hr := HA.out.r0.later (hC (.inl rfl))
          refine wp_store_row _ _ _ rfl ra (mv zM (.slice none 0 0)) (by simp [Act.eval, t2]) (by simp [Act.eval, u0]) _ _ hr (mv_size shM_z) (by rw [mvq_sz shM_z]) (mv_one _ rfl) ?_
          exact cameX _ rfl (kept_setRowQ _ _ _) (setRow_heap _ _ _ _ _ _ hr) rfl
        | m + 3, hi, _, _ => exact absurd hi (by omega)
      · intro vals x hX hR _
        have e0 : vals 0 = .agg (mv zM (.slice none 0 0)) := hR 0 (by decide)
        have e1 : vals 1 = .agg (nov c9 a9 n9 k9 a9' n9' k9') := hR 1 (by decide)
        have hra : RowAt ra (mv zM (.slice none 0 0)) 33 x := hR 2 (by decide)
        have hrb := HA.out.r1.kept hX HN.out.2.2.2.2
        have hra' : RowAt ra (mv zM (.slice none 0 0)) 33 (x.setRow rb (nov c9 a9 n9 k9 a9' n9' k9')) := hra.other _ _ (by have := HA.out.od; omega)
        have hrb' : RowAt rb (nov c9 a9 n9 k9 a9' n9' k9') 37 (x.setRow rb (nov c9 a9 n9 k9 a9' n9' k9')) := setRow_heap _ _ _ _ _ _ hrb
        have hNo := (HQ.out.1.keptT HA.out.r0 (by decide) (by decide) hX).set hrb (nov c9 a9 n9 k9 a9' n9' k9')
        have hb9 : Below w.heap.size wz x := kept_below hX HA.out.k.size (by have := HA.out.od; simp; omega)
        have hBl := below_setRow (HA.out.k.trans hb9) (Nat.le_trans HA.out.od.1 (Nat.le_of_lt HA.out.od.2.1)) (nov c9 a9 n9 k9 a9' n9' k9')
        simp only [List.take, List.drop, putAll, e0, e1]
        simp only [List.setIfInBounds_toArray, List.set_cons_succ, List.set_cons_zero]
        go_wp2_with (refine wpL_storeNo rfl _ _ rfl rfl rfl hrb ?_)
        refine bodyPost_ret (results_rd rfl rfl rfl hra' hrb' shM_z rfl) rfl ⟨zM, (.slice none 0 0), _, rfl, ?_, hBl, shM_z, (Rw.nil _ _ _), (fun g hg => by cases hg), ?_⟩
        · rw [HFN.out]
          exact hNo
        · rw [HFN.out]
          dsimp only
          rw [hbad]
          rfl
    | false =>
      have hc0 : (c9 != 0) = false := HQ.out.2.trans hbad
      go_upto_region 15 with fail
      refine wp_region_once 3 (by kernel_rfl) (fun _ => none) (by kernel_rfl) (by kernel_rfl) (by decide) (fun i v x => match i with
        | 0 => v = .agg (mv ((z0, z1, z2, zero8, lz, zeroRs) : Pms) (.slice la lz.length lc))
        | 1 => v = .agg (nov c9 a9 n9 k9 a9' n9' k9')
        | 2 => RowAt ra (mv ((z0, z1, z2, zero8, lz, zeroRs) : Pms) (.slice la lz.length lc)) 33 x
        | _ => True) (fun _ => false) (fun _ _ _ _ h => by cases h) 2 (by decide) (fun a b => Kept [ra] a b) (fun a b => Kept [ra] a b) (fun _ _ g h => g.trans (.of h)) (fun _ h => .of h) (fun _ _ h g => (Kept.of h).trans g) (fun _ _ g => g.size) ?_ ?_ ?_ ?_
      · intro i v x x' hR hb
        match i, hR with
        | 0, h => exact h
        | 1, h => exact h
        | 2, h => exact h.later hb
        | m + 3, h => exact h
      · intro i v x x' hne hR hb
        match i, hne, hR with
        | 0, hne, h => exact h
        | 1, hne, h => exact h
        | 2, hne, h => exact absurd rfl hne
        | m + 3, _, h => exact h
      · intro i o hi ho q x vals hX hC hdep hoth
        have t2 : q.tmps[2]? = some (.pointer (some ⟨ra, 0, none⟩)) := by rw [hoth 2 (by kernel_rfl)]; rfl
        have t3 : q.tmps[3]? = some (.pointer (some ⟨rb, 0, none⟩)) := by rw [hoth 3 (by kernel_rfl)]; rfl
        have t5 : q.tmps[5]? = some (.pointer (some ⟨mb, 0, none⟩)) := by rw [hoth 5 (by kernel_rfl)]; rfl
        have t6 : q.tmps[6]? = some (.pointer (some ⟨nb, 0, none⟩)) := by rw [hoth 6 (by kernel_rfl)]; rfl
        match i, hi, ho, hC with
        | 0, _, ho, hC =>
          simp only [List.getElem?_cons_zero, Option.some.injEq] at ho
          subst ho
          refine opw_ldMs _ rfl (by simp [Act.eval, t5]) HA.out.sh (HA.out.x.kept hX HN.out.2.2.2.1) ?_
          exact cameB _ rfl (by decide) (Below.refl _ _) rfl (fun h => absurd h (by decide))
        | 1, _, ho, hC =>
          simp only [List.getElem?_cons_succ, List.getElem?_cons_zero, Option.some.injEq] at ho
          subst ho
          refine opw_ldNo _ rfl (by simp [Act.eval, t6]) (HN.out.1.kept hX HN.out.2.2.1).in ?_
          exact cameB _ rfl (by decide) (Below.refl _ _) rfl (fun h => absurd h (by decide))
        | 2, _, ho, hC =>
          simp only [List.getElem?_cons_succ, List.getElem?_cons_zero, Option.some.injEq] at ho
          subst ho
          obtain ⟨u0, e0⟩ := hdep ⟨0, .data⟩ (by simp) rfl _ 46 rfl rfl
          rw [show vals 0 = .agg (mv ((z0, z1, z2, zero8, lz, zeroRs) : Pms) (.slice la lz.length lc)) from e0] at u0
          have hr := HA.out.r0.later (hC (.inl rfl))
          refine wp_store_row _ _ _ rfl ra (mv ((z0, z1, z2, zero8, lz, zeroRs) : Pms) (.slice la lz.length lc)) (by simp [Act.eval, t2]) (by simp [Act.eval, u0]) _ _ hr (mv_size HA.out.sh) (by rw [mvq_sz HA.out.sh, mvq_sz shM_z]) (mv_one _ rfl) ?_
          exact cameX _ rfl (kept_setRowQ _ _ _) (setRow_heap _ _ _ _ _ _ hr) rfl
        | m + 3, hi, _, _ => exact absurd hi (by omega)
      · intro vals x hX hR _
        have e0 : vals 0 = .agg (mv ((z0, z1, z2, zero8, lz, zeroRs) : Pms) (.slice la lz.length lc)) := hR 0 (by decide)
        have e1 : vals 1 = .agg (nov c9 a9 n9 k9 a9' n9' k9') := hR 1 (by decide)
        have hra : RowAt ra (mv ((z0, z1, z2, zero8, lz, zeroRs) : Pms) (.slice la lz.length lc)) 33 x := hR 2 (by decide)
        have hrb := HA.out.r1.kept hX HN.out.2.2.2.2
        have hra' : RowAt ra (mv ((z0, z1, z2, zero8, lz, zeroRs) : Pms) (.slice la lz.length lc)) 33 (x.setRow rb (nov c9 a9 n9 k9 a9' n9' k9')) := hra.other _ _ (by have := HA.out.od; omega)
        have hrb' : RowAt rb (nov c9 a9 n9 k9 a9' n9' k9') 37 (x.setRow rb (nov c9 a9 n9 k9 a9' n9' k9')) := setRow_heap _ _ _ _ _ _ hrb
        have hNo := (HQ.out.1.keptT HA.out.r0 (by decide) (by decide) hX).set hrb (nov c9 a9 n9 k9 a9' n9' k9')
        have hb9 : Below w.heap.size wz x := kept_below hX HA.out.k.size (by have := HA.out.od; simp; omega)
        have hBl := below_setRow (HA.out.k.trans hb9) (Nat.le_trans HA.out.od.1 (Nat.le_of_lt HA.out.od.2.1)) (nov c9 a9 n9 k9 a9' n9' k9')
        have hRw0 := HA.out.a.ch (S := fun g => g = ra) ⟨hX.os, hX.tape, hX.output, hX.size, fun g hg hn => hX.block g hg (by simpa using hn)⟩ (fun g hg e => by have := HA.out.ow g hg; have := HA.out.od; omega)
        have hRw := hRw0.rowN rb (nov c9 a9 n9 k9 a9' n9' k9') (fun g hg e => by have := HA.out.ow g hg; have := HA.out.od; omega)
        simp only [List.take, List.drop, putAll, e0, e1]
        simp only [List.setIfInBounds_toArray, List.set_cons_succ, List.set_cons_zero]
        go_wp2_with (refine wpL_storeNo rfl _ _ rfl rfl rfl hrb ?_)
        refine bodyPost_ret (results_rd rfl rfl rfl hra' hrb' HA.out.sh rfl) rfl ⟨((z0, z1, z2, zero8, lz, zeroRs) : Pms), (.slice la lz.length lc), _, rfl, ?_, hBl, HA.out.sh, hRw, (fun g hg => by have := HA.out.ow g hg; have := HA.out.od; omega), ?_⟩
        · rw [HFN.out]
          exact hNo
        · rw [HFN.out]
          dsimp only
          rw [hbad]
          rfl
  · by_cases h3 : z0 = 3
    · have hz : z0 = 3 := h3
      have hka : haQ z0 = true := by rw [hz]; rfl
      have hkr : hrQ z0 = true := by rw [hz]; rfl
      have hk2 : (z0 == 2) = false := by rw [hz]; rfl
      have pa : (z0 = 1 ∨ z0 = 3) = True := by rw [hz]; simp
      have pc : (z0 = 2) = False := by rw [hz]; simp
      have pr : (z0 = 3 ∨ z0 = 4) = True := by rw [hz]; simp
      have HZ := hid_of' (And.intro pa (And.intro pc pr))
      clear pa pc pr hz h3
      have q0 : w3.cell? ⟨mb, 0, none⟩ = some (.int .i64 z0) := (A3.at 0).1
      have HF := hid_of' (And.intro (fun w => hasA_is hka w) (fun w => hasR_is hkr w))
      obtain ⟨lz, S3, e3⟩ : ∃ z s, PS.actsC bs S2 = (z, s) := ⟨_, _, rfl⟩
      have H3 := acts_pxC A3.px
      rw [e3] at H3
      dsimp only at H3
      have HC3 := hid_of' (And.intro H3 A3)
      have E3 := hid_of' e3
      clear H3 A3 e3
      go_upto_region 8 with (first | (go_at_call 17; refine (HF.out.1 _).mono ?_; rintro e wz ⟨rfl, hz⟩; obtain rfl := hz.symm) | (go_at_call 18; refine HC3.out.1.mono ?_; rintro e u3 ⟨row, rfl, hp3, hk3, hrw3, how3, hsh3⟩; obtain ⟨la, lc, rfl, _, _⟩ := hrw3.form; have B3 := HC3.out.2.call hp3 hk3; have q3 : u3.cell? ⟨mb, 11, none⟩ = some (.slice none 0 0) := (B3.at 11).1; have f3 := (B3.at 11).2))
      have hs4 : shM ((z0, z1, z2, zero8, lz, zeroRs) : Pms) := ⟨rfl, hsh3, B3.sh.2.2⟩
      have A4 : MsB w pb xb mb ra rb (.slice va vn vc) bs ((z0, z1, z2, zero8, lz, zeroRs) : Pms) (.slice la lz.length lc) S3 (u3.setCell ⟨mb, 11, none⟩ (.slice la lz.length lc)) := B3.set 11 (.slice la lz.length lc) (mv_set11 B3.sh _ _ lz) hs4 hrw3 (fun g hg => Nat.lt_of_lt_of_le HC3.out.2.x.lt (how3 g hg))
      generalize u3.setCell ⟨mb, 11, none⟩ (.slice la lz.length lc) = w4 at A4 ⊢
      have q0' : w4.cell? ⟨mb, 0, none⟩ = some (.int .i64 z0) := (A4.at 0).1
      clear B3 q3 f3 hp3 hk3 hrw3 how3 hsh3 hs4 q0
      obtain ⟨rs, S5, e5⟩ : ∃ z s, PS.rounds bs S3 = (z, s) := ⟨_, _, rfl⟩
      have H5 := rounds_px A4.px
      rw [e5] at H5
      dsimp only at H5
      have HC5 := hid_of' (And.intro H5 A4)
      have E5 := hid_of' e5
      clear H5 A4 e5
      go_upto_region 12 with (first | (go_at_call 17; refine (HF.out.1 _).mono ?_; rintro e wz ⟨rfl, hz⟩; obtain rfl := hz.symm) | (go_at_call 20; refine (HF.out.2 _).mono ?_; rintro e wz ⟨rfl, hz⟩; obtain rfl := hz.symm) | (go_at_call 21; refine HC5.out.1.mono ?_; rintro e u5 ⟨rfl, hp5, hk5, hs5⟩; have B5 := HC5.out.2.call hp5 hk5; have ht5 := act_there (o := 12) (n := 144) B5.x (by rw [mvq_sz B5.sh]; omega)) | (refine wpList_store_mid rfl 31 _ _ rfl mb 12 (rsv rs) rfl rfl (by rw [rsv_sz hs5]; exact ht5) (rsv_size hs5) (rsv_one _) ?_))
      have A6 : MsB w pb xb mb ra rb (.slice va vn vc) bs ((z0, z1, z2, zero8, lz, rs) : Pms) (.slice la lz.length lc) S5 (u5.setCells mb 12 (rsv rs).toList) := B5.put 12 (rsv rs).toList (mv_put12 B5.sh _ rs hs5) ⟨rfl, B5.sh.2.1, hs5⟩ rfl
      generalize u5.setCells mb 12 (rsv rs).toList = w6 at A6 ⊢
      clear B5 ht5 hp5 hk5 hs5
      have hall : PS.msg bs s0 = (((z0, z1, z2, zero8, lz, rs) : Pms), S5) := by
        unfold PS.msg
        rw [E0.out]
        dsimp only
        rw [E1.out]
        dsimp only
        rw [show PS.number bs S1 mx63 = (z2, S2) from E2.out]
        dsimp only
        unfold PS.body
        simp only [HZ.out.1, HZ.out.2.1, HZ.out.2.2, if_true, if_false]
        rw [E3.out]
        rw [E5.out]
      have hfin : PS.all bs = (((z0, z1, z2, zero8, lz, rs) : Pms), S5.fin bs) := by
        unfold PS.all
        rw [← HS0.out, hall]
      have hend := end_px A6.px
      have HD := hid_of' (And.intro hend A6)
      have HFN := hid_of' hfin
      clear hend A6 hall hfin
      go_upto_region 13 with (first
        | (go_at_call 22; refine HD.out.1.mono ?_; rintro e u9 ⟨no, rfl, hq9, hk9⟩; obtain ⟨c9, a9, n9, k9, a9', n9', k9', rfl, hc9⟩ := hq9.code)
        | (refine wpL_stNew rfl 37 _ _ rfl rfl rfl (cs := nov c9 a9 n9 k9 a9' n9' k9') rfl size_No rfl (by simp [nov, Value.oneCell']) ?_))
      have h9 : ∃ (wz : World), wz = u9.alloc (.cells (nov c9 a9 n9 k9 a9' n9' k9') 37) := ⟨_, rfl⟩
      obtain ⟨wz, hwz⟩ := h9
      have b9 := below_one u9 (.cells (nov c9 a9 n9 k9 a9' n9' k9') 37)
      have hn9 : RowAt u9.heap.size (nov c9 a9 n9 k9 a9' n9' k9') 37 wz := by rw [hwz]; exact RowAt.new u9 _ _
      rw [← hwz] at b9 ⊢
      have HM9 := (HD.out.2.done hk9).later b9
      have hq := hq9.later b9
      have hne := HM9.od
      have hnb : u9.heap.size < wz.heap.size := hn9.lt
      have hmb := (HD.out.2.done hk9).x.lt
      have HQ := hid_of' (And.intro hq hc9)
      clear hwz b9 hq hc9 hq9 hk9
      generalize u9.heap.size = nb at hn9 hmb hnb ⊢
      have d0 : wz.cell? ⟨nb, 0, none⟩ = some (.int .i64 c9) := hn9.cell 0
      have HA := hid_of' HM9
      have HN := hid_of' (And.intro hn9 (And.intro (show nb ∉ [rb] by simp; omega) (And.intro (show nb ∉ [ra] by simp; omega) (And.intro (show mb ∉ [ra] by simp; omega) (show rb ∉ [ra] by simp; omega)))))
      clear HM9 hn9
      cases hbad : (S5.fin bs).bad with
      | true =>
        have hc0 : (c9 != 0) = true := HQ.out.2.trans hbad
        go_upto_region 14 with fail
        refine wp_region_once 3 (by kernel_rfl) (fun _ => none) (by kernel_rfl) (by kernel_rfl) (by decide) (fun i v x => match i with
          | 0 => v = .agg (mv zM (.slice none 0 0))
          | 1 => v = .agg (nov c9 a9 n9 k9 a9' n9' k9')
          | 2 => RowAt ra (mv zM (.slice none 0 0)) 33 x
          | _ => True) (fun _ => false) (fun _ _ _ _ h => by cases h) 2 (by decide) (fun a b => Kept [ra] a b) (fun a b => Kept [ra] a b) (fun _ _ g h => g.trans (.of h)) (fun _ h => .of h) (fun _ _ h g => (Kept.of h).trans g) (fun _ _ g => g.size) ?_ ?_ ?_ ?_
        · intro i v x x' hR hb
          match i, hR with
          | 0, h => exact h
          | 1, h => exact h
          | 2, h => exact h.later hb
          | m + 3, h => exact h
        · intro i v x x' hne hR hb
          match i, hne, hR with
          | 0, hne, h => exact h
          | 1, hne, h => exact h
          | 2, hne, h => exact absurd rfl hne
          | m + 3, _, h => exact h
        · intro i o hi ho q x vals hX hC hdep hoth
          have t2 : q.tmps[2]? = some (.pointer (some ⟨ra, 0, none⟩)) := by rw [hoth 2 (by kernel_rfl)]; rfl
          have t3 : q.tmps[3]? = some (.pointer (some ⟨rb, 0, none⟩)) := by rw [hoth 3 (by kernel_rfl)]; rfl
          have t5 : q.tmps[5]? = some (.pointer (some ⟨mb, 0, none⟩)) := by rw [hoth 5 (by kernel_rfl)]; rfl
          have t6 : q.tmps[6]? = some (.pointer (some ⟨nb, 0, none⟩)) := by rw [hoth 6 (by kernel_rfl)]; rfl
          match i, hi, ho, hC with
          | 0, _, ho, hC =>
            simp only [List.getElem?_cons_zero, Option.some.injEq] at ho
            subst ho
            refine opw_bldMs rfl ?_
            exact cameB _ rfl (by decide) (Below.refl _ _) rfl (fun h => absurd h (by decide))
          | 1, _, ho, hC =>
            simp only [List.getElem?_cons_succ, List.getElem?_cons_zero, Option.some.injEq] at ho
            subst ho
            refine opw_ldNo _ rfl (by simp [Act.eval, t6]) (HN.out.1.kept hX HN.out.2.2.1).in ?_
            exact cameB _ rfl (by decide) (Below.refl _ _) rfl (fun h => absurd h (by decide))
          | 2, _, ho, hC =>
            simp only [List.getElem?_cons_succ, List.getElem?_cons_zero, Option.some.injEq] at ho
            subst ho
            obtain ⟨u0, e0⟩ := hdep ⟨0, .data⟩ (by simp) rfl _ 44 rfl rfl
            rw [show vals 0 = .agg (mv zM (.slice none 0 0)) from e0] at u0
            have hr := HA.out.r0.later (hC (.inl rfl))
            refine wp_store_row _ _ _ rfl ra (mv zM (.slice none 0 0)) (by simp [Act.eval, t2]) (by simp [Act.eval, u0]) _ _ hr (mv_size shM_z) (by rw [mvq_sz shM_z]) (mv_one _ rfl) ?_
            exact cameX _ rfl (kept_setRowQ _ _ _) (setRow_heap _ _ _ _ _ _ hr) rfl
          | m + 3, hi, _, _ => exact absurd hi (by omega)
        · intro vals x hX hR _
          have e0 : vals 0 = .agg (mv zM (.slice none 0 0)) := hR 0 (by decide)
          have e1 : vals 1 = .agg (nov c9 a9 n9 k9 a9' n9' k9') := hR 1 (by decide)
          have hra : RowAt ra (mv zM (.slice none 0 0)) 33 x := hR 2 (by decide)
          have hrb := HA.out.r1.kept hX HN.out.2.2.2.2
          have hra' : RowAt ra (mv zM (.slice none 0 0)) 33 (x.setRow rb (nov c9 a9 n9 k9 a9' n9' k9')) := hra.other _ _ (by have := HA.out.od; omega)
          have hrb' : RowAt rb (nov c9 a9 n9 k9 a9' n9' k9') 37 (x.setRow rb (nov c9 a9 n9 k9 a9' n9' k9')) := setRow_heap _ _ _ _ _ _ hrb
          have hNo := (HQ.out.1.keptT HA.out.r0 (by decide) (by decide) hX).set hrb (nov c9 a9 n9 k9 a9' n9' k9')
          have hb9 : Below w.heap.size wz x := kept_below hX HA.out.k.size (by have := HA.out.od; simp; omega)
          have hBl := below_setRow (HA.out.k.trans hb9) (Nat.le_trans HA.out.od.1 (Nat.le_of_lt HA.out.od.2.1)) (nov c9 a9 n9 k9 a9' n9' k9')
          simp only [List.take, List.drop, putAll, e0, e1]
          simp only [List.setIfInBounds_toArray, List.set_cons_succ, List.set_cons_zero]
          go_wp2_with (refine wpL_storeNo rfl _ _ rfl rfl rfl hrb ?_)
          refine bodyPost_ret (results_rd rfl rfl rfl hra' hrb' shM_z rfl) rfl ⟨zM, (.slice none 0 0), _, rfl, ?_, hBl, shM_z, (Rw.nil _ _ _), (fun g hg => by cases hg), ?_⟩
          · rw [HFN.out]
            exact hNo
          · rw [HFN.out]
            dsimp only
            rw [hbad]
            rfl
      | false =>
        have hc0 : (c9 != 0) = false := HQ.out.2.trans hbad
        go_upto_region 15 with fail
        refine wp_region_once 3 (by kernel_rfl) (fun _ => none) (by kernel_rfl) (by kernel_rfl) (by decide) (fun i v x => match i with
          | 0 => v = .agg (mv ((z0, z1, z2, zero8, lz, rs) : Pms) (.slice la lz.length lc))
          | 1 => v = .agg (nov c9 a9 n9 k9 a9' n9' k9')
          | 2 => RowAt ra (mv ((z0, z1, z2, zero8, lz, rs) : Pms) (.slice la lz.length lc)) 33 x
          | _ => True) (fun _ => false) (fun _ _ _ _ h => by cases h) 2 (by decide) (fun a b => Kept [ra] a b) (fun a b => Kept [ra] a b) (fun _ _ g h => g.trans (.of h)) (fun _ h => .of h) (fun _ _ h g => (Kept.of h).trans g) (fun _ _ g => g.size) ?_ ?_ ?_ ?_
        · intro i v x x' hR hb
          match i, hR with
          | 0, h => exact h
          | 1, h => exact h
          | 2, h => exact h.later hb
          | m + 3, h => exact h
        · intro i v x x' hne hR hb
          match i, hne, hR with
          | 0, hne, h => exact h
          | 1, hne, h => exact h
          | 2, hne, h => exact absurd rfl hne
          | m + 3, _, h => exact h
        · intro i o hi ho q x vals hX hC hdep hoth
          have t2 : q.tmps[2]? = some (.pointer (some ⟨ra, 0, none⟩)) := by rw [hoth 2 (by kernel_rfl)]; rfl
          have t3 : q.tmps[3]? = some (.pointer (some ⟨rb, 0, none⟩)) := by rw [hoth 3 (by kernel_rfl)]; rfl
          have t5 : q.tmps[5]? = some (.pointer (some ⟨mb, 0, none⟩)) := by rw [hoth 5 (by kernel_rfl)]; rfl
          have t6 : q.tmps[6]? = some (.pointer (some ⟨nb, 0, none⟩)) := by rw [hoth 6 (by kernel_rfl)]; rfl
          match i, hi, ho, hC with
          | 0, _, ho, hC =>
            simp only [List.getElem?_cons_zero, Option.some.injEq] at ho
            subst ho
            refine opw_ldMs _ rfl (by simp [Act.eval, t5]) HA.out.sh (HA.out.x.kept hX HN.out.2.2.2.1) ?_
            exact cameB _ rfl (by decide) (Below.refl _ _) rfl (fun h => absurd h (by decide))
          | 1, _, ho, hC =>
            simp only [List.getElem?_cons_succ, List.getElem?_cons_zero, Option.some.injEq] at ho
            subst ho
            refine opw_ldNo _ rfl (by simp [Act.eval, t6]) (HN.out.1.kept hX HN.out.2.2.1).in ?_
            exact cameB _ rfl (by decide) (Below.refl _ _) rfl (fun h => absurd h (by decide))
          | 2, _, ho, hC =>
            simp only [List.getElem?_cons_succ, List.getElem?_cons_zero, Option.some.injEq] at ho
            subst ho
            obtain ⟨u0, e0⟩ := hdep ⟨0, .data⟩ (by simp) rfl _ 46 rfl rfl
            rw [show vals 0 = .agg (mv ((z0, z1, z2, zero8, lz, rs) : Pms) (.slice la lz.length lc)) from e0] at u0
            have hr := HA.out.r0.later (hC (.inl rfl))
            refine wp_store_row _ _ _ rfl ra (mv ((z0, z1, z2, zero8, lz, rs) : Pms) (.slice la lz.length lc)) (by simp [Act.eval, t2]) (by simp [Act.eval, u0]) _ _ hr (mv_size HA.out.sh) (by rw [mvq_sz HA.out.sh, mvq_sz shM_z]) (mv_one _ rfl) ?_
            exact cameX _ rfl (kept_setRowQ _ _ _) (setRow_heap _ _ _ _ _ _ hr) rfl
          | m + 3, hi, _, _ => exact absurd hi (by omega)
        · intro vals x hX hR _
          have e0 : vals 0 = .agg (mv ((z0, z1, z2, zero8, lz, rs) : Pms) (.slice la lz.length lc)) := hR 0 (by decide)
          have e1 : vals 1 = .agg (nov c9 a9 n9 k9 a9' n9' k9') := hR 1 (by decide)
          have hra : RowAt ra (mv ((z0, z1, z2, zero8, lz, rs) : Pms) (.slice la lz.length lc)) 33 x := hR 2 (by decide)
          have hrb := HA.out.r1.kept hX HN.out.2.2.2.2
          have hra' : RowAt ra (mv ((z0, z1, z2, zero8, lz, rs) : Pms) (.slice la lz.length lc)) 33 (x.setRow rb (nov c9 a9 n9 k9 a9' n9' k9')) := hra.other _ _ (by have := HA.out.od; omega)
          have hrb' : RowAt rb (nov c9 a9 n9 k9 a9' n9' k9') 37 (x.setRow rb (nov c9 a9 n9 k9 a9' n9' k9')) := setRow_heap _ _ _ _ _ _ hrb
          have hNo := (HQ.out.1.keptT HA.out.r0 (by decide) (by decide) hX).set hrb (nov c9 a9 n9 k9 a9' n9' k9')
          have hb9 : Below w.heap.size wz x := kept_below hX HA.out.k.size (by have := HA.out.od; simp; omega)
          have hBl := below_setRow (HA.out.k.trans hb9) (Nat.le_trans HA.out.od.1 (Nat.le_of_lt HA.out.od.2.1)) (nov c9 a9 n9 k9 a9' n9' k9')
          have hRw0 := HA.out.a.ch (S := fun g => g = ra) ⟨hX.os, hX.tape, hX.output, hX.size, fun g hg hn => hX.block g hg (by simpa using hn)⟩ (fun g hg e => by have := HA.out.ow g hg; have := HA.out.od; omega)
          have hRw := hRw0.rowN rb (nov c9 a9 n9 k9 a9' n9' k9') (fun g hg e => by have := HA.out.ow g hg; have := HA.out.od; omega)
          simp only [List.take, List.drop, putAll, e0, e1]
          simp only [List.setIfInBounds_toArray, List.set_cons_succ, List.set_cons_zero]
          go_wp2_with (refine wpL_storeNo rfl _ _ rfl rfl rfl hrb ?_)
          refine bodyPost_ret (results_rd rfl rfl rfl hra' hrb' HA.out.sh rfl) rfl ⟨((z0, z1, z2, zero8, lz, rs) : Pms), (.slice la lz.length lc), _, rfl, ?_, hBl, HA.out.sh, hRw, (fun g hg => by have := HA.out.ow g hg; have := HA.out.od; omega), ?_⟩
          · rw [HFN.out]
            exact hNo
          · rw [HFN.out]
            dsimp only
            rw [hbad]
            rfl
    · by_cases h2 : z0 = 2
      · have hz : z0 = 2 := h2
        have hka : haQ z0 = false := by rw [hz]; rfl
        have hkr : hrQ z0 = false := by rw [hz]; rfl
        have hk2 : (z0 == 2) = true := by rw [hz]; rfl
        have pa : (z0 = 1 ∨ z0 = 3) = False := by rw [hz]; simp
        have pc : (z0 = 2) = True := by rw [hz]; simp
        have pr : (z0 = 3 ∨ z0 = 4) = False := by rw [hz]; simp
        have HZ := hid_of' (And.intro pa (And.intro pc pr))
        clear pa pc pr hz h2
        have q0 : w3.cell? ⟨mb, 0, none⟩ = some (.int .i64 z0) := (A3.at 0).1
        have HF := hid_of' (And.intro (fun w => hasA_is hka w) (fun w => hasR_is hkr w))
        obtain ⟨ck, S4, e4⟩ : ∃ z s, PS.clock bs S2 = (z, s) := ⟨_, _, rfl⟩
        have H4 := clock_px A3.px
        rw [e4] at H4
        dsimp only at H4
        have HC4 := hid_of' (And.intro H4 A3)
        have E4 := hid_of' e4
        clear H4 A3 e4
        go_upto_region 10 with (first | (go_at_call 17; refine (HF.out.1 _).mono ?_; rintro e wz ⟨rfl, hz⟩; obtain rfl := hz.symm) | (go_at_call 19; refine HC4.out.1.mono ?_; rintro e u4 ⟨rfl, hp4, hk4, hl4⟩; have B4 := HC4.out.2.call hp4 hk4; have ht4 := act_there (o := 3) (n := 8) B4.x (by rw [mvq_sz B4.sh]; omega)) | (refine wpList_store_mid rfl 26 _ _ rfl mb 3 (cv ck) rfl rfl (by rw [cv_size, hl4]; exact ht4) (ck_size hl4) (cv_one _) ?_))
        have A5 : MsB w pb xb mb ra rb (.slice va vn vc) bs ((z0, z1, z2, ck, [], zeroRs) : Pms) (.slice none 0 0) S4 (u4.setCells mb 3 (cv ck).toList) := B4.put 3 (cv ck).toList (mv_put3 B4.sh _ ck hl4) ⟨hl4, B4.sh.2.1, B4.sh.2.2⟩ rfl
        generalize u4.setCells mb 3 (cv ck).toList = w5 at A5 ⊢
        have q0' : w5.cell? ⟨mb, 0, none⟩ = some (.int .i64 z0) := (A5.at 0).1
        clear B4 ht4 hp4 hk4 hl4 q0
        go_upto_region 12 with (first | (go_at_call 17; refine (HF.out.1 _).mono ?_; rintro e wz ⟨rfl, hz⟩; obtain rfl := hz.symm) | (go_at_call 20; refine (HF.out.2 _).mono ?_; rintro e wz ⟨rfl, hz⟩; obtain rfl := hz.symm))
        have hall : PS.msg bs s0 = (((z0, z1, z2, ck, [], zeroRs) : Pms), S4) := by
          unfold PS.msg
          rw [E0.out]
          dsimp only
          rw [E1.out]
          dsimp only
          rw [show PS.number bs S1 mx63 = (z2, S2) from E2.out]
          dsimp only
          unfold PS.body
          simp only [HZ.out.1, HZ.out.2.1, HZ.out.2.2, if_true, if_false]
          rw [E4.out]
        have hfin : PS.all bs = (((z0, z1, z2, ck, [], zeroRs) : Pms), S4.fin bs) := by
          unfold PS.all
          rw [← HS0.out, hall]
        have hend := end_px A5.px
        have HD := hid_of' (And.intro hend A5)
        have HFN := hid_of' hfin
        clear hend A5 hall hfin
        go_upto_region 13 with (first
          | (go_at_call 22; refine HD.out.1.mono ?_; rintro e u9 ⟨no, rfl, hq9, hk9⟩; obtain ⟨c9, a9, n9, k9, a9', n9', k9', rfl, hc9⟩ := hq9.code)
          | (refine wpL_stNew rfl 37 _ _ rfl rfl rfl (cs := nov c9 a9 n9 k9 a9' n9' k9') rfl size_No rfl (by simp [nov, Value.oneCell']) ?_))
        have h9 : ∃ (wz : World), wz = u9.alloc (.cells (nov c9 a9 n9 k9 a9' n9' k9') 37) := ⟨_, rfl⟩
        obtain ⟨wz, hwz⟩ := h9
        have b9 := below_one u9 (.cells (nov c9 a9 n9 k9 a9' n9' k9') 37)
        have hn9 : RowAt u9.heap.size (nov c9 a9 n9 k9 a9' n9' k9') 37 wz := by rw [hwz]; exact RowAt.new u9 _ _
        rw [← hwz] at b9 ⊢
        have HM9 := (HD.out.2.done hk9).later b9
        have hq := hq9.later b9
        have hne := HM9.od
        have hnb : u9.heap.size < wz.heap.size := hn9.lt
        have hmb := (HD.out.2.done hk9).x.lt
        have HQ := hid_of' (And.intro hq hc9)
        clear hwz b9 hq hc9 hq9 hk9
        generalize u9.heap.size = nb at hn9 hmb hnb ⊢
        have d0 : wz.cell? ⟨nb, 0, none⟩ = some (.int .i64 c9) := hn9.cell 0
        have HA := hid_of' HM9
        have HN := hid_of' (And.intro hn9 (And.intro (show nb ∉ [rb] by simp; omega) (And.intro (show nb ∉ [ra] by simp; omega) (And.intro (show mb ∉ [ra] by simp; omega) (show rb ∉ [ra] by simp; omega)))))
        clear HM9 hn9
        cases hbad : (S4.fin bs).bad with
        | true =>
          have hc0 : (c9 != 0) = true := HQ.out.2.trans hbad
          go_upto_region 14 with fail
          refine wp_region_once 3 (by kernel_rfl) (fun _ => none) (by kernel_rfl) (by kernel_rfl) (by decide) (fun i v x => match i with
            | 0 => v = .agg (mv zM (.slice none 0 0))
            | 1 => v = .agg (nov c9 a9 n9 k9 a9' n9' k9')
            | 2 => RowAt ra (mv zM (.slice none 0 0)) 33 x
            | _ => True) (fun _ => false) (fun _ _ _ _ h => by cases h) 2 (by decide) (fun a b => Kept [ra] a b) (fun a b => Kept [ra] a b) (fun _ _ g h => g.trans (.of h)) (fun _ h => .of h) (fun _ _ h g => (Kept.of h).trans g) (fun _ _ g => g.size) ?_ ?_ ?_ ?_
          · intro i v x x' hR hb
            match i, hR with
            | 0, h => exact h
            | 1, h => exact h
            | 2, h => exact h.later hb
            | m + 3, h => exact h
          · intro i v x x' hne hR hb
            match i, hne, hR with
            | 0, hne, h => exact h
            | 1, hne, h => exact h
            | 2, hne, h => exact absurd rfl hne
            | m + 3, _, h => exact h
          · intro i o hi ho q x vals hX hC hdep hoth
            have t2 : q.tmps[2]? = some (.pointer (some ⟨ra, 0, none⟩)) := by rw [hoth 2 (by kernel_rfl)]; rfl
            have t3 : q.tmps[3]? = some (.pointer (some ⟨rb, 0, none⟩)) := by rw [hoth 3 (by kernel_rfl)]; rfl
            have t5 : q.tmps[5]? = some (.pointer (some ⟨mb, 0, none⟩)) := by rw [hoth 5 (by kernel_rfl)]; rfl
            have t6 : q.tmps[6]? = some (.pointer (some ⟨nb, 0, none⟩)) := by rw [hoth 6 (by kernel_rfl)]; rfl
            match i, hi, ho, hC with
            | 0, _, ho, hC =>
              simp only [List.getElem?_cons_zero, Option.some.injEq] at ho
              subst ho
              refine opw_bldMs rfl ?_
              exact cameB _ rfl (by decide) (Below.refl _ _) rfl (fun h => absurd h (by decide))
            | 1, _, ho, hC =>
              simp only [List.getElem?_cons_succ, List.getElem?_cons_zero, Option.some.injEq] at ho
              subst ho
              refine opw_ldNo _ rfl (by simp [Act.eval, t6]) (HN.out.1.kept hX HN.out.2.2.1).in ?_
              exact cameB _ rfl (by decide) (Below.refl _ _) rfl (fun h => absurd h (by decide))
            | 2, _, ho, hC =>
              simp only [List.getElem?_cons_succ, List.getElem?_cons_zero, Option.some.injEq] at ho
              subst ho
              obtain ⟨u0, e0⟩ := hdep ⟨0, .data⟩ (by simp) rfl _ 44 rfl rfl
              rw [show vals 0 = .agg (mv zM (.slice none 0 0)) from e0] at u0
              have hr := HA.out.r0.later (hC (.inl rfl))
              refine wp_store_row _ _ _ rfl ra (mv zM (.slice none 0 0)) (by simp [Act.eval, t2]) (by simp [Act.eval, u0]) _ _ hr (mv_size shM_z) (by rw [mvq_sz shM_z]) (mv_one _ rfl) ?_
              exact cameX _ rfl (kept_setRowQ _ _ _) (setRow_heap _ _ _ _ _ _ hr) rfl
            | m + 3, hi, _, _ => exact absurd hi (by omega)
          · intro vals x hX hR _
            have e0 : vals 0 = .agg (mv zM (.slice none 0 0)) := hR 0 (by decide)
            have e1 : vals 1 = .agg (nov c9 a9 n9 k9 a9' n9' k9') := hR 1 (by decide)
            have hra : RowAt ra (mv zM (.slice none 0 0)) 33 x := hR 2 (by decide)
            have hrb := HA.out.r1.kept hX HN.out.2.2.2.2
            have hra' : RowAt ra (mv zM (.slice none 0 0)) 33 (x.setRow rb (nov c9 a9 n9 k9 a9' n9' k9')) := hra.other _ _ (by have := HA.out.od; omega)
            have hrb' : RowAt rb (nov c9 a9 n9 k9 a9' n9' k9') 37 (x.setRow rb (nov c9 a9 n9 k9 a9' n9' k9')) := setRow_heap _ _ _ _ _ _ hrb
            have hNo := (HQ.out.1.keptT HA.out.r0 (by decide) (by decide) hX).set hrb (nov c9 a9 n9 k9 a9' n9' k9')
            have hb9 : Below w.heap.size wz x := kept_below hX HA.out.k.size (by have := HA.out.od; simp; omega)
            have hBl := below_setRow (HA.out.k.trans hb9) (Nat.le_trans HA.out.od.1 (Nat.le_of_lt HA.out.od.2.1)) (nov c9 a9 n9 k9 a9' n9' k9')
            simp only [List.take, List.drop, putAll, e0, e1]
            simp only [List.setIfInBounds_toArray, List.set_cons_succ, List.set_cons_zero]
            go_wp2_with (refine wpL_storeNo rfl _ _ rfl rfl rfl hrb ?_)
            refine bodyPost_ret (results_rd rfl rfl rfl hra' hrb' shM_z rfl) rfl ⟨zM, (.slice none 0 0), _, rfl, ?_, hBl, shM_z, (Rw.nil _ _ _), (fun g hg => by cases hg), ?_⟩
            · rw [HFN.out]
              exact hNo
            · rw [HFN.out]
              dsimp only
              rw [hbad]
              rfl
        | false =>
          have hc0 : (c9 != 0) = false := HQ.out.2.trans hbad
          go_upto_region 15 with fail
          refine wp_region_once 3 (by kernel_rfl) (fun _ => none) (by kernel_rfl) (by kernel_rfl) (by decide) (fun i v x => match i with
            | 0 => v = .agg (mv ((z0, z1, z2, ck, [], zeroRs) : Pms) (.slice none 0 0))
            | 1 => v = .agg (nov c9 a9 n9 k9 a9' n9' k9')
            | 2 => RowAt ra (mv ((z0, z1, z2, ck, [], zeroRs) : Pms) (.slice none 0 0)) 33 x
            | _ => True) (fun _ => false) (fun _ _ _ _ h => by cases h) 2 (by decide) (fun a b => Kept [ra] a b) (fun a b => Kept [ra] a b) (fun _ _ g h => g.trans (.of h)) (fun _ h => .of h) (fun _ _ h g => (Kept.of h).trans g) (fun _ _ g => g.size) ?_ ?_ ?_ ?_
          · intro i v x x' hR hb
            match i, hR with
            | 0, h => exact h
            | 1, h => exact h
            | 2, h => exact h.later hb
            | m + 3, h => exact h
          · intro i v x x' hne hR hb
            match i, hne, hR with
            | 0, hne, h => exact h
            | 1, hne, h => exact h
            | 2, hne, h => exact absurd rfl hne
            | m + 3, _, h => exact h
          · intro i o hi ho q x vals hX hC hdep hoth
            have t2 : q.tmps[2]? = some (.pointer (some ⟨ra, 0, none⟩)) := by rw [hoth 2 (by kernel_rfl)]; rfl
            have t3 : q.tmps[3]? = some (.pointer (some ⟨rb, 0, none⟩)) := by rw [hoth 3 (by kernel_rfl)]; rfl
            have t5 : q.tmps[5]? = some (.pointer (some ⟨mb, 0, none⟩)) := by rw [hoth 5 (by kernel_rfl)]; rfl
            have t6 : q.tmps[6]? = some (.pointer (some ⟨nb, 0, none⟩)) := by rw [hoth 6 (by kernel_rfl)]; rfl
            match i, hi, ho, hC with
            | 0, _, ho, hC =>
              simp only [List.getElem?_cons_zero, Option.some.injEq] at ho
              subst ho
              refine opw_ldMs _ rfl (by simp [Act.eval, t5]) HA.out.sh (HA.out.x.kept hX HN.out.2.2.2.1) ?_
              exact cameB _ rfl (by decide) (Below.refl _ _) rfl (fun h => absurd h (by decide))
            | 1, _, ho, hC =>
              simp only [List.getElem?_cons_succ, List.getElem?_cons_zero, Option.some.injEq] at ho
              subst ho
              refine opw_ldNo _ rfl (by simp [Act.eval, t6]) (HN.out.1.kept hX HN.out.2.2.1).in ?_
              exact cameB _ rfl (by decide) (Below.refl _ _) rfl (fun h => absurd h (by decide))
            | 2, _, ho, hC =>
              simp only [List.getElem?_cons_succ, List.getElem?_cons_zero, Option.some.injEq] at ho
              subst ho
              obtain ⟨u0, e0⟩ := hdep ⟨0, .data⟩ (by simp) rfl _ 46 rfl rfl
              rw [show vals 0 = .agg (mv ((z0, z1, z2, ck, [], zeroRs) : Pms) (.slice none 0 0)) from e0] at u0
              have hr := HA.out.r0.later (hC (.inl rfl))
              refine wp_store_row _ _ _ rfl ra (mv ((z0, z1, z2, ck, [], zeroRs) : Pms) (.slice none 0 0)) (by simp [Act.eval, t2]) (by simp [Act.eval, u0]) _ _ hr (mv_size HA.out.sh) (by rw [mvq_sz HA.out.sh, mvq_sz shM_z]) (mv_one _ rfl) ?_
              exact cameX _ rfl (kept_setRowQ _ _ _) (setRow_heap _ _ _ _ _ _ hr) rfl
            | m + 3, hi, _, _ => exact absurd hi (by omega)
          · intro vals x hX hR _
            have e0 : vals 0 = .agg (mv ((z0, z1, z2, ck, [], zeroRs) : Pms) (.slice none 0 0)) := hR 0 (by decide)
            have e1 : vals 1 = .agg (nov c9 a9 n9 k9 a9' n9' k9') := hR 1 (by decide)
            have hra : RowAt ra (mv ((z0, z1, z2, ck, [], zeroRs) : Pms) (.slice none 0 0)) 33 x := hR 2 (by decide)
            have hrb := HA.out.r1.kept hX HN.out.2.2.2.2
            have hra' : RowAt ra (mv ((z0, z1, z2, ck, [], zeroRs) : Pms) (.slice none 0 0)) 33 (x.setRow rb (nov c9 a9 n9 k9 a9' n9' k9')) := hra.other _ _ (by have := HA.out.od; omega)
            have hrb' : RowAt rb (nov c9 a9 n9 k9 a9' n9' k9') 37 (x.setRow rb (nov c9 a9 n9 k9 a9' n9' k9')) := setRow_heap _ _ _ _ _ _ hrb
            have hNo := (HQ.out.1.keptT HA.out.r0 (by decide) (by decide) hX).set hrb (nov c9 a9 n9 k9 a9' n9' k9')
            have hb9 : Below w.heap.size wz x := kept_below hX HA.out.k.size (by have := HA.out.od; simp; omega)
            have hBl := below_setRow (HA.out.k.trans hb9) (Nat.le_trans HA.out.od.1 (Nat.le_of_lt HA.out.od.2.1)) (nov c9 a9 n9 k9 a9' n9' k9')
            have hRw0 := HA.out.a.ch (S := fun g => g = ra) ⟨hX.os, hX.tape, hX.output, hX.size, fun g hg hn => hX.block g hg (by simpa using hn)⟩ (fun g hg e => by have := HA.out.ow g hg; have := HA.out.od; omega)
            have hRw := hRw0.rowN rb (nov c9 a9 n9 k9 a9' n9' k9') (fun g hg e => by have := HA.out.ow g hg; have := HA.out.od; omega)
            simp only [List.take, List.drop, putAll, e0, e1]
            simp only [List.setIfInBounds_toArray, List.set_cons_succ, List.set_cons_zero]
            go_wp2_with (refine wpL_storeNo rfl _ _ rfl rfl rfl hrb ?_)
            refine bodyPost_ret (results_rd rfl rfl rfl hra' hrb' HA.out.sh rfl) rfl ⟨((z0, z1, z2, ck, [], zeroRs) : Pms), (.slice none 0 0), _, rfl, ?_, hBl, HA.out.sh, hRw, (fun g hg => by have := HA.out.ow g hg; have := HA.out.od; omega), ?_⟩
            · rw [HFN.out]
              exact hNo
            · rw [HFN.out]
              dsimp only
              rw [hbad]
              rfl
      · by_cases h4 : z0 = 4
        · have hz : z0 = 4 := h4
          have hka : haQ z0 = false := by rw [hz]; rfl
          have hkr : hrQ z0 = true := by rw [hz]; rfl
          have hk2 : (z0 == 2) = false := by rw [hz]; rfl
          have pa : (z0 = 1 ∨ z0 = 3) = False := by rw [hz]; simp
          have pc : (z0 = 2) = False := by rw [hz]; simp
          have pr : (z0 = 3 ∨ z0 = 4) = True := by rw [hz]; simp
          have HZ := hid_of' (And.intro pa (And.intro pc pr))
          clear pa pc pr hz h4
          have q0 : w3.cell? ⟨mb, 0, none⟩ = some (.int .i64 z0) := (A3.at 0).1
          have HF := hid_of' (And.intro (fun w => hasA_is hka w) (fun w => hasR_is hkr w))
          obtain ⟨rs, S5, e5⟩ : ∃ z s, PS.rounds bs S2 = (z, s) := ⟨_, _, rfl⟩
          have H5 := rounds_px A3.px
          rw [e5] at H5
          dsimp only at H5
          have HC5 := hid_of' (And.intro H5 A3)
          have E5 := hid_of' e5
          clear H5 A3 e5
          go_upto_region 12 with (first | (go_at_call 17; refine (HF.out.1 _).mono ?_; rintro e wz ⟨rfl, hz⟩; obtain rfl := hz.symm) | (go_at_call 20; refine (HF.out.2 _).mono ?_; rintro e wz ⟨rfl, hz⟩; obtain rfl := hz.symm) | (go_at_call 21; refine HC5.out.1.mono ?_; rintro e u5 ⟨rfl, hp5, hk5, hs5⟩; have B5 := HC5.out.2.call hp5 hk5; have ht5 := act_there (o := 12) (n := 144) B5.x (by rw [mvq_sz B5.sh]; omega)) | (refine wpList_store_mid rfl 31 _ _ rfl mb 12 (rsv rs) rfl rfl (by rw [rsv_sz hs5]; exact ht5) (rsv_size hs5) (rsv_one _) ?_))
          have A6 : MsB w pb xb mb ra rb (.slice va vn vc) bs ((z0, z1, z2, zero8, [], rs) : Pms) (.slice none 0 0) S5 (u5.setCells mb 12 (rsv rs).toList) := B5.put 12 (rsv rs).toList (mv_put12 B5.sh _ rs hs5) ⟨rfl, B5.sh.2.1, hs5⟩ rfl
          generalize u5.setCells mb 12 (rsv rs).toList = w6 at A6 ⊢
          clear B5 ht5 hp5 hk5 hs5
          have hall : PS.msg bs s0 = (((z0, z1, z2, zero8, [], rs) : Pms), S5) := by
            unfold PS.msg
            rw [E0.out]
            dsimp only
            rw [E1.out]
            dsimp only
            rw [show PS.number bs S1 mx63 = (z2, S2) from E2.out]
            dsimp only
            unfold PS.body
            simp only [HZ.out.1, HZ.out.2.1, HZ.out.2.2, if_true, if_false]
            rw [E5.out]
          have hfin : PS.all bs = (((z0, z1, z2, zero8, [], rs) : Pms), S5.fin bs) := by
            unfold PS.all
            rw [← HS0.out, hall]
          have hend := end_px A6.px
          have HD := hid_of' (And.intro hend A6)
          have HFN := hid_of' hfin
          clear hend A6 hall hfin
          go_upto_region 13 with (first
            | (go_at_call 22; refine HD.out.1.mono ?_; rintro e u9 ⟨no, rfl, hq9, hk9⟩; obtain ⟨c9, a9, n9, k9, a9', n9', k9', rfl, hc9⟩ := hq9.code)
            | (refine wpL_stNew rfl 37 _ _ rfl rfl rfl (cs := nov c9 a9 n9 k9 a9' n9' k9') rfl size_No rfl (by simp [nov, Value.oneCell']) ?_))
          have h9 : ∃ (wz : World), wz = u9.alloc (.cells (nov c9 a9 n9 k9 a9' n9' k9') 37) := ⟨_, rfl⟩
          obtain ⟨wz, hwz⟩ := h9
          have b9 := below_one u9 (.cells (nov c9 a9 n9 k9 a9' n9' k9') 37)
          have hn9 : RowAt u9.heap.size (nov c9 a9 n9 k9 a9' n9' k9') 37 wz := by rw [hwz]; exact RowAt.new u9 _ _
          rw [← hwz] at b9 ⊢
          have HM9 := (HD.out.2.done hk9).later b9
          have hq := hq9.later b9
          have hne := HM9.od
          have hnb : u9.heap.size < wz.heap.size := hn9.lt
          have hmb := (HD.out.2.done hk9).x.lt
          have HQ := hid_of' (And.intro hq hc9)
          clear hwz b9 hq hc9 hq9 hk9
          generalize u9.heap.size = nb at hn9 hmb hnb ⊢
          have d0 : wz.cell? ⟨nb, 0, none⟩ = some (.int .i64 c9) := hn9.cell 0
          have HA := hid_of' HM9
          have HN := hid_of' (And.intro hn9 (And.intro (show nb ∉ [rb] by simp; omega) (And.intro (show nb ∉ [ra] by simp; omega) (And.intro (show mb ∉ [ra] by simp; omega) (show rb ∉ [ra] by simp; omega)))))
          clear HM9 hn9
          cases hbad : (S5.fin bs).bad with
          | true =>
            have hc0 : (c9 != 0) = true := HQ.out.2.trans hbad
            go_upto_region 14 with fail
            refine wp_region_once 3 (by kernel_rfl) (fun _ => none) (by kernel_rfl) (by kernel_rfl) (by decide) (fun i v x => match i with
              | 0 => v = .agg (mv zM (.slice none 0 0))
              | 1 => v = .agg (nov c9 a9 n9 k9 a9' n9' k9')
              | 2 => RowAt ra (mv zM (.slice none 0 0)) 33 x
              | _ => True) (fun _ => false) (fun _ _ _ _ h => by cases h) 2 (by decide) (fun a b => Kept [ra] a b) (fun a b => Kept [ra] a b) (fun _ _ g h => g.trans (.of h)) (fun _ h => .of h) (fun _ _ h g => (Kept.of h).trans g) (fun _ _ g => g.size) ?_ ?_ ?_ ?_
            · intro i v x x' hR hb
              match i, hR with
              | 0, h => exact h
              | 1, h => exact h
              | 2, h => exact h.later hb
              | m + 3, h => exact h
            · intro i v x x' hne hR hb
              match i, hne, hR with
              | 0, hne, h => exact h
              | 1, hne, h => exact h
              | 2, hne, h => exact absurd rfl hne
              | m + 3, _, h => exact h
            · intro i o hi ho q x vals hX hC hdep hoth
              have t2 : q.tmps[2]? = some (.pointer (some ⟨ra, 0, none⟩)) := by rw [hoth 2 (by kernel_rfl)]; rfl
              have t3 : q.tmps[3]? = some (.pointer (some ⟨rb, 0, none⟩)) := by rw [hoth 3 (by kernel_rfl)]; rfl
              have t5 : q.tmps[5]? = some (.pointer (some ⟨mb, 0, none⟩)) := by rw [hoth 5 (by kernel_rfl)]; rfl
              have t6 : q.tmps[6]? = some (.pointer (some ⟨nb, 0, none⟩)) := by rw [hoth 6 (by kernel_rfl)]; rfl
              match i, hi, ho, hC with
              | 0, _, ho, hC =>
                simp only [List.getElem?_cons_zero, Option.some.injEq] at ho
                subst ho
                refine opw_bldMs rfl ?_
                exact cameB _ rfl (by decide) (Below.refl _ _) rfl (fun h => absurd h (by decide))
              | 1, _, ho, hC =>
                simp only [List.getElem?_cons_succ, List.getElem?_cons_zero, Option.some.injEq] at ho
                subst ho
                refine opw_ldNo _ rfl (by simp [Act.eval, t6]) (HN.out.1.kept hX HN.out.2.2.1).in ?_
                exact cameB _ rfl (by decide) (Below.refl _ _) rfl (fun h => absurd h (by decide))
              | 2, _, ho, hC =>
                simp only [List.getElem?_cons_succ, List.getElem?_cons_zero, Option.some.injEq] at ho
                subst ho
                obtain ⟨u0, e0⟩ := hdep ⟨0, .data⟩ (by simp) rfl _ 44 rfl rfl
                rw [show vals 0 = .agg (mv zM (.slice none 0 0)) from e0] at u0
                have hr := HA.out.r0.later (hC (.inl rfl))
                refine wp_store_row _ _ _ rfl ra (mv zM (.slice none 0 0)) (by simp [Act.eval, t2]) (by simp [Act.eval, u0]) _ _ hr (mv_size shM_z) (by rw [mvq_sz shM_z]) (mv_one _ rfl) ?_
                exact cameX _ rfl (kept_setRowQ _ _ _) (setRow_heap _ _ _ _ _ _ hr) rfl
              | m + 3, hi, _, _ => exact absurd hi (by omega)
            · intro vals x hX hR _
              have e0 : vals 0 = .agg (mv zM (.slice none 0 0)) := hR 0 (by decide)
              have e1 : vals 1 = .agg (nov c9 a9 n9 k9 a9' n9' k9') := hR 1 (by decide)
              have hra : RowAt ra (mv zM (.slice none 0 0)) 33 x := hR 2 (by decide)
              have hrb := HA.out.r1.kept hX HN.out.2.2.2.2
              have hra' : RowAt ra (mv zM (.slice none 0 0)) 33 (x.setRow rb (nov c9 a9 n9 k9 a9' n9' k9')) := hra.other _ _ (by have := HA.out.od; omega)
              have hrb' : RowAt rb (nov c9 a9 n9 k9 a9' n9' k9') 37 (x.setRow rb (nov c9 a9 n9 k9 a9' n9' k9')) := setRow_heap _ _ _ _ _ _ hrb
              have hNo := (HQ.out.1.keptT HA.out.r0 (by decide) (by decide) hX).set hrb (nov c9 a9 n9 k9 a9' n9' k9')
              have hb9 : Below w.heap.size wz x := kept_below hX HA.out.k.size (by have := HA.out.od; simp; omega)
              have hBl := below_setRow (HA.out.k.trans hb9) (Nat.le_trans HA.out.od.1 (Nat.le_of_lt HA.out.od.2.1)) (nov c9 a9 n9 k9 a9' n9' k9')
              simp only [List.take, List.drop, putAll, e0, e1]
              simp only [List.setIfInBounds_toArray, List.set_cons_succ, List.set_cons_zero]
              go_wp2_with (refine wpL_storeNo rfl _ _ rfl rfl rfl hrb ?_)
              refine bodyPost_ret (results_rd rfl rfl rfl hra' hrb' shM_z rfl) rfl ⟨zM, (.slice none 0 0), _, rfl, ?_, hBl, shM_z, (Rw.nil _ _ _), (fun g hg => by cases hg), ?_⟩
              · rw [HFN.out]
                exact hNo
              · rw [HFN.out]
                dsimp only
                rw [hbad]
                rfl
          | false =>
            have hc0 : (c9 != 0) = false := HQ.out.2.trans hbad
            go_upto_region 15 with fail
            refine wp_region_once 3 (by kernel_rfl) (fun _ => none) (by kernel_rfl) (by kernel_rfl) (by decide) (fun i v x => match i with
              | 0 => v = .agg (mv ((z0, z1, z2, zero8, [], rs) : Pms) (.slice none 0 0))
              | 1 => v = .agg (nov c9 a9 n9 k9 a9' n9' k9')
              | 2 => RowAt ra (mv ((z0, z1, z2, zero8, [], rs) : Pms) (.slice none 0 0)) 33 x
              | _ => True) (fun _ => false) (fun _ _ _ _ h => by cases h) 2 (by decide) (fun a b => Kept [ra] a b) (fun a b => Kept [ra] a b) (fun _ _ g h => g.trans (.of h)) (fun _ h => .of h) (fun _ _ h g => (Kept.of h).trans g) (fun _ _ g => g.size) ?_ ?_ ?_ ?_
            · intro i v x x' hR hb
              match i, hR with
              | 0, h => exact h
              | 1, h => exact h
              | 2, h => exact h.later hb
              | m + 3, h => exact h
            · intro i v x x' hne hR hb
              match i, hne, hR with
              | 0, hne, h => exact h
              | 1, hne, h => exact h
              | 2, hne, h => exact absurd rfl hne
              | m + 3, _, h => exact h
            · intro i o hi ho q x vals hX hC hdep hoth
              have t2 : q.tmps[2]? = some (.pointer (some ⟨ra, 0, none⟩)) := by rw [hoth 2 (by kernel_rfl)]; rfl
              have t3 : q.tmps[3]? = some (.pointer (some ⟨rb, 0, none⟩)) := by rw [hoth 3 (by kernel_rfl)]; rfl
              have t5 : q.tmps[5]? = some (.pointer (some ⟨mb, 0, none⟩)) := by rw [hoth 5 (by kernel_rfl)]; rfl
              have t6 : q.tmps[6]? = some (.pointer (some ⟨nb, 0, none⟩)) := by rw [hoth 6 (by kernel_rfl)]; rfl
              match i, hi, ho, hC with
              | 0, _, ho, hC =>
                simp only [List.getElem?_cons_zero, Option.some.injEq] at ho
                subst ho
                refine opw_ldMs _ rfl (by simp [Act.eval, t5]) HA.out.sh (HA.out.x.kept hX HN.out.2.2.2.1) ?_
                exact cameB _ rfl (by decide) (Below.refl _ _) rfl (fun h => absurd h (by decide))
              | 1, _, ho, hC =>
                simp only [List.getElem?_cons_succ, List.getElem?_cons_zero, Option.some.injEq] at ho
                subst ho
                refine opw_ldNo _ rfl (by simp [Act.eval, t6]) (HN.out.1.kept hX HN.out.2.2.1).in ?_
                exact cameB _ rfl (by decide) (Below.refl _ _) rfl (fun h => absurd h (by decide))
              | 2, _, ho, hC =>
                simp only [List.getElem?_cons_succ, List.getElem?_cons_zero, Option.some.injEq] at ho
                subst ho
                obtain ⟨u0, e0⟩ := hdep ⟨0, .data⟩ (by simp) rfl _ 46 rfl rfl
                rw [show vals 0 = .agg (mv ((z0, z1, z2, zero8, [], rs) : Pms) (.slice none 0 0)) from e0] at u0
                have hr := HA.out.r0.later (hC (.inl rfl))
                refine wp_store_row _ _ _ rfl ra (mv ((z0, z1, z2, zero8, [], rs) : Pms) (.slice none 0 0)) (by simp [Act.eval, t2]) (by simp [Act.eval, u0]) _ _ hr (mv_size HA.out.sh) (by rw [mvq_sz HA.out.sh, mvq_sz shM_z]) (mv_one _ rfl) ?_
                exact cameX _ rfl (kept_setRowQ _ _ _) (setRow_heap _ _ _ _ _ _ hr) rfl
              | m + 3, hi, _, _ => exact absurd hi (by omega)
            · intro vals x hX hR _
              have e0 : vals 0 = .agg (mv ((z0, z1, z2, zero8, [], rs) : Pms) (.slice none 0 0)) := hR 0 (by decide)
              have e1 : vals 1 = .agg (nov c9 a9 n9 k9 a9' n9' k9') := hR 1 (by decide)
              have hra : RowAt ra (mv ((z0, z1, z2, zero8, [], rs) : Pms) (.slice none 0 0)) 33 x := hR 2 (by decide)
              have hrb := HA.out.r1.kept hX HN.out.2.2.2.2
              have hra' : RowAt ra (mv ((z0, z1, z2, zero8, [], rs) : Pms) (.slice none 0 0)) 33 (x.setRow rb (nov c9 a9 n9 k9 a9' n9' k9')) := hra.other _ _ (by have := HA.out.od; omega)
              have hrb' : RowAt rb (nov c9 a9 n9 k9 a9' n9' k9') 37 (x.setRow rb (nov c9 a9 n9 k9 a9' n9' k9')) := setRow_heap _ _ _ _ _ _ hrb
              have hNo := (HQ.out.1.keptT HA.out.r0 (by decide) (by decide) hX).set hrb (nov c9 a9 n9 k9 a9' n9' k9')
              have hb9 : Below w.heap.size wz x := kept_below hX HA.out.k.size (by have := HA.out.od; simp; omega)
              have hBl := below_setRow (HA.out.k.trans hb9) (Nat.le_trans HA.out.od.1 (Nat.le_of_lt HA.out.od.2.1)) (nov c9 a9 n9 k9 a9' n9' k9')
              have hRw0 := HA.out.a.ch (S := fun g => g = ra) ⟨hX.os, hX.tape, hX.output, hX.size, fun g hg hn => hX.block g hg (by simpa using hn)⟩ (fun g hg e => by have := HA.out.ow g hg; have := HA.out.od; omega)
              have hRw := hRw0.rowN rb (nov c9 a9 n9 k9 a9' n9' k9') (fun g hg e => by have := HA.out.ow g hg; have := HA.out.od; omega)
              simp only [List.take, List.drop, putAll, e0, e1]
              simp only [List.setIfInBounds_toArray, List.set_cons_succ, List.set_cons_zero]
              go_wp2_with (refine wpL_storeNo rfl _ _ rfl rfl rfl hrb ?_)
              refine bodyPost_ret (results_rd rfl rfl rfl hra' hrb' HA.out.sh rfl) rfl ⟨((z0, z1, z2, zero8, [], rs) : Pms), (.slice none 0 0), _, rfl, ?_, hBl, HA.out.sh, hRw, (fun g hg => by have := HA.out.ow g hg; have := HA.out.od; omega), ?_⟩
              · rw [HFN.out]
                exact hNo
              · rw [HFN.out]
                dsimp only
                rw [hbad]
                rfl
        · have hka : haQ z0 = false := by simp [haQ, h1, h3]
          have hkr : hrQ z0 = false := by simp [hrQ, h3, h4]
          have hk2 : (z0 == 2) = false := by simp [h2]
          have pa : (z0 = 1 ∨ z0 = 3) = False := by simp [h1, h3]
          have pc : (z0 = 2) = False := by simp [h2]
          have pr : (z0 = 3 ∨ z0 = 4) = False := by simp [h3, h4]
          have HZ := hid_of' (And.intro pa (And.intro pc pr))
          clear pa pc pr h1 h2 h3 h4
          have q0 : w3.cell? ⟨mb, 0, none⟩ = some (.int .i64 z0) := (A3.at 0).1
          have HF := hid_of' (And.intro (fun w => hasA_is hka w) (fun w => hasR_is hkr w))
          go_upto_region 12 with (first | (go_at_call 17; refine (HF.out.1 _).mono ?_; rintro e wz ⟨rfl, hz⟩; obtain rfl := hz.symm) | (go_at_call 20; refine (HF.out.2 _).mono ?_; rintro e wz ⟨rfl, hz⟩; obtain rfl := hz.symm))
          have hall : PS.msg bs s0 = (((z0, z1, z2, zero8, [], zeroRs) : Pms), S2) := by
            unfold PS.msg
            rw [E0.out]
            dsimp only
            rw [E1.out]
            dsimp only
            rw [show PS.number bs S1 mx63 = (z2, S2) from E2.out]
            dsimp only
            unfold PS.body
            simp only [HZ.out.1, HZ.out.2.1, HZ.out.2.2, if_false]
          have hfin : PS.all bs = (((z0, z1, z2, zero8, [], zeroRs) : Pms), S2.fin bs) := by
            unfold PS.all
            rw [← HS0.out, hall]
          have hend := end_px A3.px
          have HD := hid_of' (And.intro hend A3)
          have HFN := hid_of' hfin
          clear hend A3 hall hfin
          go_upto_region 13 with (first
            | (go_at_call 22; refine HD.out.1.mono ?_; rintro e u9 ⟨no, rfl, hq9, hk9⟩; obtain ⟨c9, a9, n9, k9, a9', n9', k9', rfl, hc9⟩ := hq9.code)
            | (refine wpL_stNew rfl 37 _ _ rfl rfl rfl (cs := nov c9 a9 n9 k9 a9' n9' k9') rfl size_No rfl (by simp [nov, Value.oneCell']) ?_))
          have h9 : ∃ (wz : World), wz = u9.alloc (.cells (nov c9 a9 n9 k9 a9' n9' k9') 37) := ⟨_, rfl⟩
          obtain ⟨wz, hwz⟩ := h9
          have b9 := below_one u9 (.cells (nov c9 a9 n9 k9 a9' n9' k9') 37)
          have hn9 : RowAt u9.heap.size (nov c9 a9 n9 k9 a9' n9' k9') 37 wz := by rw [hwz]; exact RowAt.new u9 _ _
          rw [← hwz] at b9 ⊢
          have HM9 := (HD.out.2.done hk9).later b9
          have hq := hq9.later b9
          have hne := HM9.od
          have hnb : u9.heap.size < wz.heap.size := hn9.lt
          have hmb := (HD.out.2.done hk9).x.lt
          have HQ := hid_of' (And.intro hq hc9)
          clear hwz b9 hq hc9 hq9 hk9
          generalize u9.heap.size = nb at hn9 hmb hnb ⊢
          have d0 : wz.cell? ⟨nb, 0, none⟩ = some (.int .i64 c9) := hn9.cell 0
          have HA := hid_of' HM9
          have HN := hid_of' (And.intro hn9 (And.intro (show nb ∉ [rb] by simp; omega) (And.intro (show nb ∉ [ra] by simp; omega) (And.intro (show mb ∉ [ra] by simp; omega) (show rb ∉ [ra] by simp; omega)))))
          clear HM9 hn9
          cases hbad : (S2.fin bs).bad with
          | true =>
            have hc0 : (c9 != 0) = true := HQ.out.2.trans hbad
            go_upto_region 14 with fail
            refine wp_region_once 3 (by kernel_rfl) (fun _ => none) (by kernel_rfl) (by kernel_rfl) (by decide) (fun i v x => match i with
              | 0 => v = .agg (mv zM (.slice none 0 0))
              | 1 => v = .agg (nov c9 a9 n9 k9 a9' n9' k9')
              | 2 => RowAt ra (mv zM (.slice none 0 0)) 33 x
              | _ => True) (fun _ => false) (fun _ _ _ _ h => by cases h) 2 (by decide) (fun a b => Kept [ra] a b) (fun a b => Kept [ra] a b) (fun _ _ g h => g.trans (.of h)) (fun _ h => .of h) (fun _ _ h g => (Kept.of h).trans g) (fun _ _ g => g.size) ?_ ?_ ?_ ?_
            · intro i v x x' hR hb
              match i, hR with
              | 0, h => exact h
              | 1, h => exact h
              | 2, h => exact h.later hb
              | m + 3, h => exact h
            · intro i v x x' hne hR hb
              match i, hne, hR with
              | 0, hne, h => exact h
              | 1, hne, h => exact h
              | 2, hne, h => exact absurd rfl hne
              | m + 3, _, h => exact h
            · intro i o hi ho q x vals hX hC hdep hoth
              have t2 : q.tmps[2]? = some (.pointer (some ⟨ra, 0, none⟩)) := by rw [hoth 2 (by kernel_rfl)]; rfl
              have t3 : q.tmps[3]? = some (.pointer (some ⟨rb, 0, none⟩)) := by rw [hoth 3 (by kernel_rfl)]; rfl
              have t5 : q.tmps[5]? = some (.pointer (some ⟨mb, 0, none⟩)) := by rw [hoth 5 (by kernel_rfl)]; rfl
              have t6 : q.tmps[6]? = some (.pointer (some ⟨nb, 0, none⟩)) := by rw [hoth 6 (by kernel_rfl)]; rfl
              match i, hi, ho, hC with
              | 0, _, ho, hC =>
                simp only [List.getElem?_cons_zero, Option.some.injEq] at ho
                subst ho
                refine opw_bldMs rfl ?_
                exact cameB _ rfl (by decide) (Below.refl _ _) rfl (fun h => absurd h (by decide))
              | 1, _, ho, hC =>
                simp only [List.getElem?_cons_succ, List.getElem?_cons_zero, Option.some.injEq] at ho
                subst ho
                refine opw_ldNo _ rfl (by simp [Act.eval, t6]) (HN.out.1.kept hX HN.out.2.2.1).in ?_
                exact cameB _ rfl (by decide) (Below.refl _ _) rfl (fun h => absurd h (by decide))
              | 2, _, ho, hC =>
                simp only [List.getElem?_cons_succ, List.getElem?_cons_zero, Option.some.injEq] at ho
                subst ho
                obtain ⟨u0, e0⟩ := hdep ⟨0, .data⟩ (by simp) rfl _ 44 rfl rfl
                rw [show vals 0 = .agg (mv zM (.slice none 0 0)) from e0] at u0
                have hr := HA.out.r0.later (hC (.inl rfl))
                refine wp_store_row _ _ _ rfl ra (mv zM (.slice none 0 0)) (by simp [Act.eval, t2]) (by simp [Act.eval, u0]) _ _ hr (mv_size shM_z) (by rw [mvq_sz shM_z]) (mv_one _ rfl) ?_
                exact cameX _ rfl (kept_setRowQ _ _ _) (setRow_heap _ _ _ _ _ _ hr) rfl
              | m + 3, hi, _, _ => exact absurd hi (by omega)
            · intro vals x hX hR _
              have e0 : vals 0 = .agg (mv zM (.slice none 0 0)) := hR 0 (by decide)
              have e1 : vals 1 = .agg (nov c9 a9 n9 k9 a9' n9' k9') := hR 1 (by decide)
              have hra : RowAt ra (mv zM (.slice none 0 0)) 33 x := hR 2 (by decide)
              have hrb := HA.out.r1.kept hX HN.out.2.2.2.2
              have hra' : RowAt ra (mv zM (.slice none 0 0)) 33 (x.setRow rb (nov c9 a9 n9 k9 a9' n9' k9')) := hra.other _ _ (by have := HA.out.od; omega)
              have hrb' : RowAt rb (nov c9 a9 n9 k9 a9' n9' k9') 37 (x.setRow rb (nov c9 a9 n9 k9 a9' n9' k9')) := setRow_heap _ _ _ _ _ _ hrb
              have hNo := (HQ.out.1.keptT HA.out.r0 (by decide) (by decide) hX).set hrb (nov c9 a9 n9 k9 a9' n9' k9')
              have hb9 : Below w.heap.size wz x := kept_below hX HA.out.k.size (by have := HA.out.od; simp; omega)
              have hBl := below_setRow (HA.out.k.trans hb9) (Nat.le_trans HA.out.od.1 (Nat.le_of_lt HA.out.od.2.1)) (nov c9 a9 n9 k9 a9' n9' k9')
              simp only [List.take, List.drop, putAll, e0, e1]
              simp only [List.setIfInBounds_toArray, List.set_cons_succ, List.set_cons_zero]
              go_wp2_with (refine wpL_storeNo rfl _ _ rfl rfl rfl hrb ?_)
              refine bodyPost_ret (results_rd rfl rfl rfl hra' hrb' shM_z rfl) rfl ⟨zM, (.slice none 0 0), _, rfl, ?_, hBl, shM_z, (Rw.nil _ _ _), (fun g hg => by cases hg), ?_⟩
              · rw [HFN.out]
                exact hNo
              · rw [HFN.out]
                dsimp only
                rw [hbad]
                rfl
          | false =>
            have hc0 : (c9 != 0) = false := HQ.out.2.trans hbad
            go_upto_region 15 with fail
            refine wp_region_once 3 (by kernel_rfl) (fun _ => none) (by kernel_rfl) (by kernel_rfl) (by decide) (fun i v x => match i with
              | 0 => v = .agg (mv ((z0, z1, z2, zero8, [], zeroRs) : Pms) (.slice none 0 0))
              | 1 => v = .agg (nov c9 a9 n9 k9 a9' n9' k9')
              | 2 => RowAt ra (mv ((z0, z1, z2, zero8, [], zeroRs) : Pms) (.slice none 0 0)) 33 x
              | _ => True) (fun _ => false) (fun _ _ _ _ h => by cases h) 2 (by decide) (fun a b => Kept [ra] a b) (fun a b => Kept [ra] a b) (fun _ _ g h => g.trans (.of h)) (fun _ h => .of h) (fun _ _ h g => (Kept.of h).trans g) (fun _ _ g => g.size) ?_ ?_ ?_ ?_
            · intro i v x x' hR hb
              match i, hR with
              | 0, h => exact h
              | 1, h => exact h
              | 2, h => exact h.later hb
              | m + 3, h => exact h
            · intro i v x x' hne hR hb
              match i, hne, hR with
              | 0, hne, h => exact h
              | 1, hne, h => exact h
              | 2, hne, h => exact absurd rfl hne
              | m + 3, _, h => exact h
            · intro i o hi ho q x vals hX hC hdep hoth
              have t2 : q.tmps[2]? = some (.pointer (some ⟨ra, 0, none⟩)) := by rw [hoth 2 (by kernel_rfl)]; rfl
              have t3 : q.tmps[3]? = some (.pointer (some ⟨rb, 0, none⟩)) := by rw [hoth 3 (by kernel_rfl)]; rfl
              have t5 : q.tmps[5]? = some (.pointer (some ⟨mb, 0, none⟩)) := by rw [hoth 5 (by kernel_rfl)]; rfl
              have t6 : q.tmps[6]? = some (.pointer (some ⟨nb, 0, none⟩)) := by rw [hoth 6 (by kernel_rfl)]; rfl
              match i, hi, ho, hC with
              | 0, _, ho, hC =>
                simp only [List.getElem?_cons_zero, Option.some.injEq] at ho
                subst ho
                refine opw_ldMs _ rfl (by simp [Act.eval, t5]) HA.out.sh (HA.out.x.kept hX HN.out.2.2.2.1) ?_
                exact cameB _ rfl (by decide) (Below.refl _ _) rfl (fun h => absurd h (by decide))
              | 1, _, ho, hC =>
                simp only [List.getElem?_cons_succ, List.getElem?_cons_zero, Option.some.injEq] at ho
                subst ho
                refine opw_ldNo _ rfl (by simp [Act.eval, t6]) (HN.out.1.kept hX HN.out.2.2.1).in ?_
                exact cameB _ rfl (by decide) (Below.refl _ _) rfl (fun h => absurd h (by decide))
              | 2, _, ho, hC =>
                simp only [List.getElem?_cons_succ, List.getElem?_cons_zero, Option.some.injEq] at ho
                subst ho
                obtain ⟨u0, e0⟩ := hdep ⟨0, .data⟩ (by simp) rfl _ 46 rfl rfl
                rw [show vals 0 = .agg (mv ((z0, z1, z2, zero8, [], zeroRs) : Pms) (.slice none 0 0)) from e0] at u0
                have hr := HA.out.r0.later (hC (.inl rfl))
                refine wp_store_row _ _ _ rfl ra (mv ((z0, z1, z2, zero8, [], zeroRs) : Pms) (.slice none 0 0)) (by simp [Act.eval, t2]) (by simp [Act.eval, u0]) _ _ hr (mv_size HA.out.sh) (by rw [mvq_sz HA.out.sh, mvq_sz shM_z]) (mv_one _ rfl) ?_
                exact cameX _ rfl (kept_setRowQ _ _ _) (setRow_heap _ _ _ _ _ _ hr) rfl
              | m + 3, hi, _, _ => exact absurd hi (by omega)
            · intro vals x hX hR _
              have e0 : vals 0 = .agg (mv ((z0, z1, z2, zero8, [], zeroRs) : Pms) (.slice none 0 0)) := hR 0 (by decide)
              have e1 : vals 1 = .agg (nov c9 a9 n9 k9 a9' n9' k9') := hR 1 (by decide)
              have hra : RowAt ra (mv ((z0, z1, z2, zero8, [], zeroRs) : Pms) (.slice none 0 0)) 33 x := hR 2 (by decide)
              have hrb := HA.out.r1.kept hX HN.out.2.2.2.2
              have hra' : RowAt ra (mv ((z0, z1, z2, zero8, [], zeroRs) : Pms) (.slice none 0 0)) 33 (x.setRow rb (nov c9 a9 n9 k9 a9' n9' k9')) := hra.other _ _ (by have := HA.out.od; omega)
              have hrb' : RowAt rb (nov c9 a9 n9 k9 a9' n9' k9') 37 (x.setRow rb (nov c9 a9 n9 k9 a9' n9' k9')) := setRow_heap _ _ _ _ _ _ hrb
              have hNo := (HQ.out.1.keptT HA.out.r0 (by decide) (by decide) hX).set hrb (nov c9 a9 n9 k9 a9' n9' k9')
              have hb9 : Below w.heap.size wz x := kept_below hX HA.out.k.size (by have := HA.out.od; simp; omega)
              have hBl := below_setRow (HA.out.k.trans hb9) (Nat.le_trans HA.out.od.1 (Nat.le_of_lt HA.out.od.2.1)) (nov c9 a9 n9 k9 a9' n9' k9')
              have hRw0 := HA.out.a.ch (S := fun g => g = ra) ⟨hX.os, hX.tape, hX.output, hX.size, fun g hg hn => hX.block g hg (by simpa using hn)⟩ (fun g hg e => by have := HA.out.ow g hg; have := HA.out.od; omega)
              have hRw := hRw0.rowN rb (nov c9 a9 n9 k9 a9' n9' k9') (fun g hg e => by have := HA.out.ow g hg; have := HA.out.od; omega)
              simp only [List.take, List.drop, putAll, e0, e1]
              simp only [List.setIfInBounds_toArray, List.set_cons_succ, List.set_cons_zero]
              go_wp2_with (refine wpL_storeNo rfl _ _ rfl rfl rfl hrb ?_)
              refine bodyPost_ret (results_rd rfl rfl rfl hra' hrb' HA.out.sh rfl) rfl ⟨((z0, z1, z2, zero8, [], zeroRs) : Pms), (.slice none 0 0), _, rfl, ?_, hBl, HA.out.sh, hRw, (fun g hg => by have := HA.out.ow g hg; have := HA.out.od; omega), ?_⟩
              · rw [HFN.out]
                exact hNo
              · rw [HFN.out]
                dsimp only
                rw [hbad]
                rfl
end Go.Proofs.YtpkblfhkblllhaaGreatDoor
