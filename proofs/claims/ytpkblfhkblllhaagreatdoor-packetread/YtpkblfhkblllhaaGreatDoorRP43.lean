
/-
  barrowref09.Reader: Acts.
-/
import Derived.Test.YtpkblfhkblllhaaGreatDoorRP42
namespace Go.Proofs.YtpkblfhkblllhaaGreatDoor
open Go.RowKit
set_option maxRecDepth 100000

theorem cntR_leQ {bs : List UInt8} {least most : Int} {n k : Nat} (h : cntR bs least most = .ok (n, k)) : (n : Int) ≤ most := by
  unfold cntR at h
  split at h
  · cases h
  · rename_i n' k' hr
    split at h <;> (try split at h) <;> first | (cases h; exact numR_le hr) | cases h
theorem count_fit (bs : List UInt8) (s : PS) (least : Int) : 0 ≤ (s.count bs least).1 ∧ (s.count bs least).1 ≤ 2147483647 := by
  unfold PS.count
  split
  · exact ⟨Int.le_refl 0, (by decide : (0 : Int) ≤ 2147483647)⟩
  · split
    · rename_i n k hr
      exact ⟨by dsimp only; omega, cntR_leQ hr⟩
    · exact ⟨Int.le_refl 0, (by decide : (0 : Int) ≤ 2147483647)⟩
theorem acts_end {w w8 w9 : World} {pb xb xa : Nat} {v row u : Value} {bs : List UInt8} {l : List Pac} {s : PS} {pa : Pac} {cs : Array Value} {o : Obj} (h : AcB w pb xb xa v bs row l s cs w8) (_hl : pa.2.2.length = 8) (q1 : Rw 76 13 u (l.length + 1) (acsl l ++ acl pa) w9) (q2 : (w8.alloc o).grownBy w9 row.ownBlock) (q3 : At' (w8.alloc o) row u) :
    PxAt pb xb v bs s w9 ∧ Rw 76 13 u (l.length + 1) (acsl (l ++ [pa])) w9 ∧ Kept [pb, xb] w w9 ∧ ∀ g, u.ownBlock = some g → w.heap.size ≤ g := by
  have hb := below_one w8 o
  refine ⟨(h.px.later hb).app (h.r.later hb) q2 (fun k hk g o n c e h0 => by have := h.ow k hk; have := h.hv g o n c e h0; omega), by rw [acsl_app]; exact q1, (h.k.trans (.of hb)).grown q2 (fun k hk => .inr (h.ow k hk)), fun g hg => (q3 g hg).elim (h.ow g) (fun e => Nat.le_trans (h.k.trans (.of hb)).size e)⟩
set_option maxHeartbeats 8000000 in
theorem acts_px {pb xb : Nat} {v : Value} {bs : List UInt8} {s : PS} {w : World} (h : PxAt pb xb v bs s w) :
    Calls Tryz.prog 18 #[.pointer (some ⟨pb, 0, none⟩)] w fun e w' => ∃ row, e = .returned row ∧ PxAt pb xb v bs (PS.acts bs (s.count bs 4).1.toNat (s.count bs 4).2).2 w' ∧ Kept [pb, xb] w w' ∧
      Rw 76 13 row (PS.acts bs (s.count bs 4).1.toNat (s.count bs 4).2).1.length (acsl (PS.acts bs (s.count bs 4).1.toNat (s.count bs 4).2).1) w' ∧ ∀ g, row.ownBlock = some g → w.heap.size ≤ g := by
  have hpx : pb < w.heap.size ∧ xb < w.heap.size := by
    obtain ⟨_, _, _, hx⟩ := h.xs
    exact ⟨h.row.lt, hx.at_.row.lt⟩
  have hvw : ∀ g o n c, v = .slice (some ⟨g, o, none⟩) n c → 0 < n → g < w.heap.size := fun g o n c e h0 => by
    obtain ⟨_, _, _, hx⟩ := h.xs
    rcases hx.at_.raw with ⟨rfl, a, c', e'⟩ | ⟨g', o', c', e', hg', _⟩
    · rw [e'] at e; cases e; simp at h0
    · rw [e'] at e; cases e; exact hg'
  have hfit := count_fit bs s 4
  have HN := hid_of' (count_px h 4)
  obtain ⟨N, hN⟩ : ∃ N : Nat, (s.count bs 4).1 = (N : Int) := ⟨(s.count bs 4).1.toNat, by omega⟩
  rw [hN, Int.toNat_natCast]
  rw [hN] at HN hfit
  have hN8 : N ≤ 2147483647 := by omega
  generalize (s.count bs 4).2 = s0 at HN ⊢
  obtain ⟨T, ST, hT⟩ : ∃ T ST, PS.acts bs N s0 = (T, ST) := ⟨_, _, rfl⟩
  rw [hT]
  have HT := hid_of' hT
  have HP := hid_of' (And.intro hpx hvw)
  clear hfit hN hT hpx hvw h
  obtain ⟨i0, hi0, hz⟩ := Option.map_eq_some_iff.1 info_actQ
  simp only [Prod.mk.injEq] at hz
  have HZ := hid_of' (And.intro hi0 hz)
  clear hi0 hz
  go_enter Tryz.func18, Tryz.ntmps18
  go_upto_region 3 with (go_at_call 38; refine HN.out.mono ?_; rintro e w1 ⟨rfl, hp, hk⟩)
  clear HN
  go_upto_region 4 with fail
  go_loopw [3, 5] (fun rv iv wr => ∃ (i : Nat) (l : List Pac) (la : Option Addr) (lc : Nat) (s' : PS), rv = .slice la l.length lc ∧ iv = .int .i64 (i : Int) ∧ i ≤ N ∧ Hid (l.length = i) ∧ PxAt pb xb v bs s' wr ∧ Rw 76 13 (.slice la l.length lc) l.length (acsl l) wr ∧ Kept [pb, xb] w wr ∧ (∀ g, (Value.slice la l.length lc).ownBlock = some g → w.heap.size ≤ g) ∧ Hid (l ++ (PS.acts bs (N - i) s').1 = T ∧ (PS.acts bs (N - i) s').2 = ST)) (fun _ iv _ => N - (intOf iv).toNat)
  case atStart => exact ⟨0, [], none, 0, s0, rfl, rfl, Nat.zero_le _, rfl, hp, Rw.nil _ _ _, hk, (fun g e => by cases e), (by have e := HT.out; rw [Nat.sub_zero, e]; exact ⟨rfl, rfl⟩)⟩
  case round =>
    clear hp hk
    obtain ⟨i, l, la, lc, s', rfl, rfl, hi, hli, hpr, hrw, hkr, how, he⟩ := hrel
    have fin : ∀ m, N - i = m → (PS.acts bs m s') = ([], s') → l = T ∧ s' = ST := fun m e1 e2 => by
      have e := he.out
      rw [e1, e2] at e
      simpa using e
    by_cases hlt : i < N
    · have hi1 : (i : Int) < (N : Int) := by omega
      have hB := bad_is hpr
      cases hb : s'.bad with
      | true =>
        rw [hb] at hB
        have hq := fin ((N - i - 1) + 1) (by omega) (by simp [PS.acts, hb])
        have HE := hid_of' (And.intro hB (And.intro hpr (And.intro hkr (And.intro hrw (And.intro how hq)))))
        clear hB hpr hrw hkr how fin hq he
        go_wp2_with (go_at_call 34; refine HE.out.1.mono ?_; rintro e wz ⟨rfl, hz⟩; obtain rfl := hz.symm)
        go_ret
        refine ⟨_, rfl, ?_⟩
        obtain ⟨_, h1, h2, h3, h4, rfl, rfl⟩ := HE.out
        exact ⟨h1, h2, h3, h4⟩
      | false =>
        rw [hb] at hB
        have HB := hid_of' hB
        clear hB fin
        go_upto_region 6 with (go_at_call 34; refine HB.out.mono ?_; rintro e wz ⟨rfl, hz⟩; obtain rfl := hz.symm)
        go_upto_region 7 with fail
        have hb1 := below_one wr (.cells #[.int .i64 0, .int .i64 0, .int .i32 0, .int .i64 0, .int .i64 0, .int .i64 0, .int .i64 0, .int .i64 0, .int .i64 0, .int .i64 0, .int .i64 0, .int .i64 0, .int .i64 0] 76)
        have A0 : AcB w pb xb wr.heap.size v bs (.slice la l.length lc) l s' #[.int .i64 0, .int .i64 0, .int .i32 0, .int .i64 0, .int .i64 0, .int .i64 0, .int .i64 0, .int .i64 0, .int .i64 0, .int .i64 0, .int .i64 0, .int .i64 0, .int .i64 0] (wr.alloc (.cells #[.int .i64 0, .int .i64 0, .int .i32 0, .int .i64 0, .int .i64 0, .int .i64 0, .int .i64 0, .int .i64 0, .int .i64 0, .int .i64 0, .int .i64 0, .int .i64 0, .int .i64 0] 76)) :=
          ⟨hpr.later hb1, RowAt.new wr _ _, hrw.later hb1, hkr.trans (.of hb1), fun g hg e => by have := hrw.lt g hg; omega, hkr.size, how, HP.out.1, HP.out.2⟩
        have HI := hid_of' (And.intro hli (And.intro he hrw.lt))
        clear hpr hrw hkr how hb1 HB hli he
        generalize wr.alloc (.cells #[.int .i64 0, .int .i64 0, .int .i32 0, .int .i64 0, .int .i64 0, .int .i64 0, .int .i64 0, .int .i64 0, .int .i64 0, .int .i64 0, .int .i64 0, .int .i64 0, .int .i64 0] 76) = w0 at A0 ⊢
        generalize wr.heap.size = xa at A0 ⊢
        obtain ⟨z0, S0, e0⟩ : ∃ z s, PS.byte bs s' 1 3 = (z, s) := ⟨_, _, rfl⟩
        have H0 := byte_px A0.px 1 3
        rw [e0] at H0
        dsimp only at H0
        have HC0 := hid_of' (And.intro H0 A0)
        have E0 := hid_of' e0
        clear H0 A0 e0
        go_upto_region 8 with (go_at_call 15; refine HC0.out.1.mono ?_; rintro e u0 ⟨rfl, hp0, hk0⟩; have B0 := HC0.out.2.call hp0 hk0; have q0 : u0.cell? ⟨xa, 0, none⟩ = some (.int .i64 0) := (B0.at 0).1; have f0 := (B0.at 0).2)
        have A1 : AcB w pb xb xa v bs (.slice la l.length lc) l S0 #[.int .i64 z0, .int .i64 0, .int .i32 0, .int .i64 0, .int .i64 0, .int .i64 0, .int .i64 0, .int .i64 0, .int .i64 0, .int .i64 0, .int .i64 0, .int .i64 0, .int .i64 0] (u0.setCell ⟨xa, 0, none⟩ (.int .i64 z0)) := by simpa using B0.set 0 (.int .i64 z0)
        generalize u0.setCell ⟨xa, 0, none⟩ (.int .i64 z0) = w1 at A1 ⊢
        clear B0 q0 f0 hp0 hk0
        obtain ⟨z1, S1, e1⟩ : ∃ z s, PS.number bs S0 7 = (z, s) := ⟨_, _, rfl⟩
        have H1 := number_px A1.px 7
        rw [e1] at H1
        dsimp only at H1
        have HC1 := hid_of' (And.intro H1 A1)
        have E1 := hid_of' e1
        clear H1 A1 e1
        go_upto_region 9 with (go_at_call 16; refine HC1.out.1.mono ?_; rintro e u1 ⟨rfl, hp1, hk1⟩; have B1 := HC1.out.2.call hp1 hk1; have q1 : u1.cell? ⟨xa, 3, none⟩ = some (.int .i64 0) := (B1.at 3).1; have f1 := (B1.at 3).2)
        have A2 : AcB w pb xb xa v bs (.slice la l.length lc) l S1 #[.int .i64 z0, .int .i64 0, .int .i32 0, .int .i64 z1, .int .i64 0, .int .i64 0, .int .i64 0, .int .i64 0, .int .i64 0, .int .i64 0, .int .i64 0, .int .i64 0, .int .i64 0] (u1.setCell ⟨xa, 3, none⟩ (.int .i64 z1)) := by simpa using B1.set 3 (.int .i64 z1)
        generalize u1.setCell ⟨xa, 3, none⟩ (.int .i64 z1) = w2 at A2 ⊢
        clear B1 q1 f1 hp1 hk1
        obtain ⟨z2, S2, e2⟩ : ∃ z s, PS.number bs S1 9223372036854775807 = (z, s) := ⟨_, _, rfl⟩
        have H2 := number_px A2.px 9223372036854775807
        rw [e2] at H2
        dsimp only at H2
        have HC2 := hid_of' (And.intro H2 A2)
        have E2 := hid_of' e2
        clear H2 A2 e2
        go_upto_region 10 with (go_at_call 16; refine HC2.out.1.mono ?_; rintro e u2 ⟨rfl, hp2, hk2⟩; have B2 := HC2.out.2.call hp2 hk2; have q2 : u2.cell? ⟨xa, 1, none⟩ = some (.int .i64 0) := (B2.at 1).1; have f2 := (B2.at 1).2)
        have A3 : AcB w pb xb xa v bs (.slice la l.length lc) l S2 #[.int .i64 z0, .int .i64 z2, .int .i32 0, .int .i64 z1, .int .i64 0, .int .i64 0, .int .i64 0, .int .i64 0, .int .i64 0, .int .i64 0, .int .i64 0, .int .i64 0, .int .i64 0] (u2.setCell ⟨xa, 1, none⟩ (.int .i64 z2)) := by simpa using B2.set 1 (.int .i64 z2)
        generalize u2.setCell ⟨xa, 1, none⟩ (.int .i64 z2) = w3 at A3 ⊢
        clear B2 q2 f2 hp2 hk2
        have q0 : w3.cell? ⟨xa, 0, none⟩ = some (.int .i64 z0) := (A3.at 0).1
        by_cases hk1 : z0 = 1
        · have hz1 : (z0 == 1) = true := by rw [beq_iff_eq]; exact hk1
          obtain ⟨z3, S3, e3⟩ : ∃ z s, PS.number bs S2 1114111 = (z, s) := ⟨_, _, rfl⟩
          have H3 := number_px A3.px 1114111
          rw [e3] at H3
          dsimp only at H3
          have n3 := number_fit bs S2 1114111 (by decide)
          rw [e3] at n3
          have i3 : IntKind.i32.wrap z3 = z3 := by rw [IntKind.wrap_i32]; dsimp only at n3; omega
          have HC3 := hid_of' (And.intro H3 A3)
          have E3 := hid_of' e3
          clear H3 A3 e3
          go_upto_region 12 with (go_at_call 16; refine HC3.out.1.mono ?_; rintro e u3 ⟨rfl, hp3, hk3⟩; have B3 := HC3.out.2.call hp3 hk3; have q3 : u3.cell? ⟨xa, 2, none⟩ = some (.int .i32 0) := (B3.at 2).1; have f3 := (B3.at 2).2)
          have A4 : AcB w pb xb xa v bs (.slice la l.length lc) l S3 #[.int .i64 z0, .int .i64 z2, .int .i32 z3, .int .i64 z1, .int .i64 0, .int .i64 0, .int .i64 0, .int .i64 0, .int .i64 0, .int .i64 0, .int .i64 0, .int .i64 0, .int .i64 0] (u3.setCell ⟨xa, 2, none⟩ (.int .i32 z3)) := by simpa using B3.set 2 (.int .i32 z3)
          generalize u3.setCell ⟨xa, 2, none⟩ (.int .i32 z3) = w4 at A4 ⊢
          clear B3 q3 f3 hp3 hk3
          have p0 := A4.pl.1
          have x1 := A4.pl.2
          go_upto_region 13 with fail
          clear p0 x1
          obtain ⟨z4, S4, e4⟩ : ∃ z s, PS.number bs S3 9223372036854775807 = (z, s) := ⟨_, _, rfl⟩
          have H4 := number_px A4.px 9223372036854775807
          rw [e4] at H4
          dsimp only at H4
          have HC4 := hid_of' (And.intro H4 A4)
          have E4 := hid_of' e4
          clear H4 A4 e4
          go_upto_region 14 with (go_at_call 16; refine HC4.out.1.mono ?_; rintro e u4 ⟨rfl, hp4, hk4⟩; have B4 := HC4.out.2.call hp4 hk4; have q4 : u4.cell? ⟨xa, 4, none⟩ = some (.int .i64 0) := (B4.at 4).1; have f4 := (B4.at 4).2)
          have A5 : AcB w pb xb xa v bs (.slice la l.length lc) l S4 #[.int .i64 z0, .int .i64 z2, .int .i32 z3, .int .i64 z1, .int .i64 z4, .int .i64 0, .int .i64 0, .int .i64 0, .int .i64 0, .int .i64 0, .int .i64 0, .int .i64 0, .int .i64 0] (u4.setCell ⟨xa, 4, none⟩ (.int .i64 z4)) := by simpa using B4.set 4 (.int .i64 z4)
          generalize u4.setCell ⟨xa, 4, none⟩ (.int .i64 z4) = w5 at A5 ⊢
          clear B4 q4 f4 hp4 hk4
          have HF := hid_of' (fun no => form_px A5.px S3.pl no)
          have q4 : w5.cell? ⟨xa, 4, none⟩ = some (.int .i64 z4) := (A5.at 4).1
          have HA := hid_of' A5
          clear A5
          go_upto_region 15 with (go_at_call 36; refine (HF.out _).mono ?_; rintro e w6 ⟨rfl, hp6, hk6⟩)
          have A6 : AcB w pb xb xa v bs (.slice la l.length lc) l (S4.form S3.pl (decide (z4 = 0))) #[.int .i64 z0, .int .i64 z2, .int .i32 z3, .int .i64 z1, .int .i64 z4, .int .i64 0, .int .i64 0, .int .i64 0, .int .i64 0, .int .i64 0, .int .i64 0, .int .i64 0, .int .i64 0] w6 := HA.out.call hp6 (hk6.mono (by simp))
          clear hp6 hk6 q4 HF HA
          obtain ⟨ck, S7, e7⟩ : ∃ c s, (S4.form S3.pl (decide (z4 = 0))).clock bs = (c, s) := ⟨_, _, rfl⟩
          have HK0 := clock_px A6.px
          rw [e7] at HK0
          dsimp only at HK0
          have HK := hid_of' HK0
          have HA6 := hid_of' A6
          have hact : Hid (s'.act bs = (((z0, z1, z2, z3), z4, ck), S7)) := by
            show s'.act bs = _
            simp only [PS.act, E0.out, E1.out, E2.out, E3.out, E4.out, hk1, e7, if_true]
          clear A6 HK0 e7
          go_upto_region 16 with (first
            | (go_at_call 19; refine HK.out.mono ?_; rintro e w7 ⟨rfl, hp7, hk7, hl7⟩; have B7 := HA6.out.call hp7 hk7; have ht7 := act_there (o := 5) (n := 8) B7.x (by simp))
            | (refine wpList_store_mid rfl 26 _ _ rfl xa 5 (cv ck) rfl rfl (by rw [cv_size, hl7]; exact ht7) (ck_size hl7) (cv_one _) ?_))
          have A8 : AcB w pb xb xa v bs (.slice la l.length lc) l S7 (acv ((z0, z1, z2, z3), z4, ck)) (w7.setCells xa 5 (cv ck).toList) := by
            have q := B7.kept (heap_setCells (cv ck).toList 5 _ _ B7.x) (kept_setCells _ 5 _)
            rw [act_put ((z0, z1, z2, z3), z4, ck) hl7] at q
            exact q
          generalize w7.setCells xa 5 (cv ck).toList = w8 at A8 ⊢
          generalize hpa : (((z0, z1, z2, z3), z4, ck) : Pac) = pa at A8 hact
          have hla : pa.2.2.length = 8 := by rw [← hpa]; exact hl7
          have HA8 := hid_of' A8
          have HL := hid_of' hla
          clear A8 B7 hp7 hk7 hl7 ht7 hpa hla
          have b9 := below_one w8 (.cells (acv pa) 76)
          have HQ9 := hid_of' (And.intro (HA8.out.r.later b9) (And.intro (so_act w8 pa HL.out) (show l.length + 1 ≤ 2147483648 by have := HI.out.1.out; omega)))
          go_upto_region 5 with (first
            | (refine wpL_ld rfl 76 _ rfl rfl HA8.out.x.in Tryz.underlying76 rfl (acv_size HL.out) ?_)
            | (refine wpL_oneA (p := pa) rfl _ rfl rfl HL.out ?_)
            | (at_builtin; refine wpL_app (P := Tryz.prog) rfl _ _ 27 rfl 76 i0 _ 13 104 Tryz.underlying27 HZ.out.1 HZ.out.2.1 HZ.out.2.2.1 HZ.out.2.2.2 rfl rfl rfl HQ9.out.1 HQ9.out.2.1 (acl_one _) (by have := HQ9.out.2.2; unfold maxLen; omega) (by have := HQ9.out.2.2; omega) ?_; intro v9 w9 q1 q2 q3; obtain ⟨va, vc, rfl, _, _⟩ := q1.form))
          have HX := hid_of' (acts_end HA8.out HL.out q1 q2 q3)
          clear q1 q2 q3 HQ9 b9
          go_wp2
          go_roundw
          case rel =>
            obtain ⟨x1, x2, x3, x4⟩ := HX.out
            refine ⟨i + 1, l ++ [pa], va, vc, S7, by rw [List.length_append]; rfl, by go_num, by omega, ?_, x1, by rw [List.length_append]; exact x2, x3, by rw [List.length_append]; exact x4, ?_⟩
            · show (l ++ [pa]).length = i + 1
              rw [List.length_append, HI.out.1.out]
              rfl
            · have e := HI.out.2.1.out
              rw [show N - i = (N - (i + 1)) + 1 by omega, acts_go bs _ l s' hb, hact.out] at e
              refine ⟨e.1, ?_⟩
              have e2 := e.2
              simp only [PS.acts, hb, hact.out] at e2
              simpa using e2
          case measure => simp [intOf]; omega
        · have hz1 : (z0 == 1) = false := by rw [beq_eq_false_iff_ne]; exact hk1
          have p0 := A3.pl.1
          have x1 := A3.pl.2
          go_upto_region 13 with fail
          clear p0 x1
          obtain ⟨z3, S3, e3⟩ : ∃ z s, PS.number bs S2 9223372036854775807 = (z, s) := ⟨_, _, rfl⟩
          have H3 := number_px A3.px 9223372036854775807
          rw [e3] at H3
          dsimp only at H3
          have HC3 := hid_of' (And.intro H3 A3)
          have E3 := hid_of' e3
          clear H3 A3 e3
          go_upto_region 14 with (go_at_call 16; refine HC3.out.1.mono ?_; rintro e u3 ⟨rfl, hp3, hk3⟩; have B3 := HC3.out.2.call hp3 hk3; have q3 : u3.cell? ⟨xa, 4, none⟩ = some (.int .i64 0) := (B3.at 4).1; have f3 := (B3.at 4).2)
          have A4 : AcB w pb xb xa v bs (.slice la l.length lc) l S3 #[.int .i64 z0, .int .i64 z2, .int .i32 0, .int .i64 z1, .int .i64 z3, .int .i64 0, .int .i64 0, .int .i64 0, .int .i64 0, .int .i64 0, .int .i64 0, .int .i64 0, .int .i64 0] (u3.setCell ⟨xa, 4, none⟩ (.int .i64 z3)) := by simpa using B3.set 4 (.int .i64 z3)
          generalize u3.setCell ⟨xa, 4, none⟩ (.int .i64 z3) = w4 at A4 ⊢
          clear B3 q3 f3 hp3 hk3
          have HF := hid_of' (fun no => form_px A4.px S2.pl no)
          have q4 : w4.cell? ⟨xa, 4, none⟩ = some (.int .i64 z3) := (A4.at 4).1
          have HA := hid_of' A4
          clear A4
          go_upto_region 15 with (go_at_call 36; refine (HF.out _).mono ?_; rintro e w6 ⟨rfl, hp6, hk6⟩)
          have A6 : AcB w pb xb xa v bs (.slice la l.length lc) l (S3.form S2.pl (decide (z3 = 0))) #[.int .i64 z0, .int .i64 z2, .int .i32 0, .int .i64 z1, .int .i64 z3, .int .i64 0, .int .i64 0, .int .i64 0, .int .i64 0, .int .i64 0, .int .i64 0, .int .i64 0, .int .i64 0] w6 := HA.out.call hp6 (hk6.mono (by simp))
          clear hp6 hk6 q4 HF HA
          obtain ⟨ck, S7, e7⟩ : ∃ c s, (S3.form S2.pl (decide (z3 = 0))).clock bs = (c, s) := ⟨_, _, rfl⟩
          have HK0 := clock_px A6.px
          rw [e7] at HK0
          dsimp only at HK0
          have HK := hid_of' HK0
          have HA6 := hid_of' A6
          have hact : Hid (s'.act bs = (((z0, z1, z2, 0), z3, ck), S7)) := by
            show s'.act bs = _
            simp only [PS.act, E0.out, E1.out, E2.out, E3.out, hk1, e7, if_false]
          clear A6 HK0 e7
          go_upto_region 16 with (first
            | (go_at_call 19; refine HK.out.mono ?_; rintro e w7 ⟨rfl, hp7, hk7, hl7⟩; have B7 := HA6.out.call hp7 hk7; have ht7 := act_there (o := 5) (n := 8) B7.x (by simp))
            | (refine wpList_store_mid rfl 26 _ _ rfl xa 5 (cv ck) rfl rfl (by rw [cv_size, hl7]; exact ht7) (ck_size hl7) (cv_one _) ?_))
          have A8 : AcB w pb xb xa v bs (.slice la l.length lc) l S7 (acv ((z0, z1, z2, 0), z3, ck)) (w7.setCells xa 5 (cv ck).toList) := by
            have q := B7.kept (heap_setCells (cv ck).toList 5 _ _ B7.x) (kept_setCells _ 5 _)
            rw [act_put ((z0, z1, z2, 0), z3, ck) hl7] at q
            exact q
          generalize w7.setCells xa 5 (cv ck).toList = w8 at A8 ⊢
          generalize hpa : (((z0, z1, z2, 0), z3, ck) : Pac) = pa at A8 hact
          have hla : pa.2.2.length = 8 := by rw [← hpa]; exact hl7
          have HA8 := hid_of' A8
          have HL := hid_of' hla
          clear A8 B7 hp7 hk7 hl7 ht7 hpa hla
          have b9 := below_one w8 (.cells (acv pa) 76)
          have HQ9 := hid_of' (And.intro (HA8.out.r.later b9) (And.intro (so_act w8 pa HL.out) (show l.length + 1 ≤ 2147483648 by have := HI.out.1.out; omega)))
          go_upto_region 5 with (first
            | (refine wpL_ld rfl 76 _ rfl rfl HA8.out.x.in Tryz.underlying76 rfl (acv_size HL.out) ?_)
            | (refine wpL_oneA (p := pa) rfl _ rfl rfl HL.out ?_)
            | (at_builtin; refine wpL_app (P := Tryz.prog) rfl _ _ 27 rfl 76 i0 _ 13 104 Tryz.underlying27 HZ.out.1 HZ.out.2.1 HZ.out.2.2.1 HZ.out.2.2.2 rfl rfl rfl HQ9.out.1 HQ9.out.2.1 (acl_one _) (by have := HQ9.out.2.2; unfold maxLen; omega) (by have := HQ9.out.2.2; omega) ?_; intro v9 w9 q1 q2 q3; obtain ⟨va, vc, rfl, _, _⟩ := q1.form))
          have HX := hid_of' (acts_end HA8.out HL.out q1 q2 q3)
          clear q1 q2 q3 HQ9 b9
          go_wp2
          go_roundw
          case rel =>
            obtain ⟨x1, x2, x3, x4⟩ := HX.out
            refine ⟨i + 1, l ++ [pa], va, vc, S7, by rw [List.length_append]; rfl, by go_num, by omega, ?_, x1, by rw [List.length_append]; exact x2, x3, by rw [List.length_append]; exact x4, ?_⟩
            · show (l ++ [pa]).length = i + 1
              rw [List.length_append, HI.out.1.out]
              rfl
            · have e := HI.out.2.1.out
              rw [show N - i = (N - (i + 1)) + 1 by omega, acts_go bs _ l s' hb, hact.out] at e
              refine ⟨e.1, ?_⟩
              have e2 := e.2
              simp only [PS.acts, hb, hact.out] at e2
              simpa using e2
          case measure => simp [intOf]; omega
    · have hi1 : ¬ (i : Int) < (N : Int) := by omega
      have hq := fin 0 (by omega) rfl
      have HE := hid_of' (And.intro hpr (And.intro hkr (And.intro hrw (And.intro how hq))))
      clear hpr hrw hkr how fin hq he
      go_wp2
      go_ret
      refine ⟨_, rfl, ?_⟩
      obtain ⟨h1, h2, h3, h4, rfl, rfl⟩ := HE.out
      exact ⟨h1, h2, h3, h4⟩
end Go.Proofs.YtpkblfhkblllhaaGreatDoor
