
/-
  barrowlaw10.BagSums.
-/
import Derived.Test.YtbjbihgfkcnmbaaDoorBgU
namespace Go.Proofs.YtbjbihgfkcnmbaaDoor
open Go.RowKit Go.Extern.Stop Go.Stop Go.Extern
set_option maxRecDepth 100000

theorem Rw.some {e : TypeId} {size n c : Nat} {a : Option Addr} {xs : List Value} {w : World} (h : Rw e size (.slice a n c) n xs w) (hn : 0 < n) : ∃ g, a = some ⟨g, 0, none⟩ := by
  rcases h.2 with ⟨_, q⟩ | ⟨g, cap, cur, q, _⟩
  · omega
  · cases q
    exact ⟨g, rfl⟩
theorem SmG.drpG {k : Nat} {g : Bg} {qs : List Pl} {ms : List Int} (h : SmG k g qs ms) (hk : k ≤ 1000) (i : Int) : SmG (k + 1) (drpG g i) qs ms := by
  rcases place_cases g i with ⟨n, q, rfl, hq, hn⟩ | hi
  · rw [drpG_in hn]; exact h.drop hk hq
  · rw [drpG_out hi]; exact h.mono
theorem SmG.swpA {k : Nat} {g : Bg} {qs : List Pl} {ms : List Int} (h : SmG k g qs ms) (i j : Int) : SmG (k + 1) (swpA g i j).1 qs ms := by
  unfold Go.Proofs.YtbjbihgfkcnmbaaDoor.swpA
  rcases place_cases g i with ⟨n, q, rfl, hq, hn⟩ | hi
  · rw [if_pos ⟨by omega, by omega⟩, plAt_in hq]
    rcases place_cases g j with ⟨m, r, rfl, hr, hm⟩ | hj
    · rw [if_pos ⟨by omega, by omega⟩, plAt_in hr, Int.toNat_natCast, Int.toNat_natCast]
      exact h.swap hq hr
    · rw [if_neg (by omega)]; exact h.mono
  · rw [if_neg (by omega)]; exact h.mono
theorem ErrR.mono {ad : Nat → Addr} {M M' : Nat} {o : Rf} {v : Value} {w : World} (h : ErrR ad M o v w) (hM : M' ≤ M) : ErrR ad M' o v w := by
  match o, h with
  | none, h => exact h
  | some (_, _, _), ⟨b, h1, h2, h3, h4⟩ => exact ⟨b, h1, by omega, h3, h4⟩
/-- What Send answers. -/
def SndQ (ad : Nat → Addr) (B : Nat) (M : World) (vb : Value) (N : Nat) (a : Bg × Int × Rf) (v : Value) (x : World) : Prop := ∃ u v', v = .tuple #[.int .i64 a.2.1, u] ∧ ErrR ad M.heap.size a.2.2 u x ∧ BgAt B v' a.1 (fun k => N ≤ k) x ∧ At' M vb v'
theorem SndQ.later {ad : Nat → Addr} {B : Nat} {M : World} {vb : Value} {N : Nat} {a : Bg × Int × Rf} {v : Value} {x x' : World} (h : SndQ ad B M vb N a v x) (hb : Below x.heap.size x x') : SndQ ad B M vb N a v x' := by
  obtain ⟨u, v', h1, h2, h3, h4⟩ := h
  exact ⟨u, v', h1, h2.later hb, h3.later hb, h4⟩
theorem SndQ.err {ad : Nat → Addr} {B : Nat} {M : World} {vb : Value} {N : Nat} {a : Bg × Int × Rf} {v : Value} {x : World} (h : SndQ ad B M vb N a v x) : ∃ u, v = .tuple #[.int .i64 a.2.1, u] ∧ ErrR ad M.heap.size a.2.2 u x := by
  obtain ⟨u, v', h1, h2, _⟩ := h
  exact ⟨u, h1, h2⟩
theorem sndA_ok {g : Bg} {f t : Int} {raw : List UInt8} (h : (sndA g f t raw).2.2 = none) : (sndA g f t raw).1 = sndG g f t raw ∧ (sndA g f t raw).2.1 = wrap64 (g.last + 1) := by
  unfold sndA at h ⊢
  cases he : endsB f t
  · rw [he, if_neg (by decide)] at h; cases h
  · rw [he, if_pos rfl] at h
    rw [if_pos rfl]
    by_cases hr : g.most ≤ (g.l.length : Int)
    · rw [if_pos hr] at h; cases h
    · rw [if_neg hr]; exact ⟨rfl, rfl⟩
theorem SmG.sndA0 {k : Nat} {g : Bg} {qs : List Pl} {ms : List Int} (h : SmG k g qs ms) (hk : k ≤ 1000) (f t : Int) (raw : List UInt8) (hn : ∃ r, (sndA g f t raw).2.2 = some r) : SmG (k + 1) (sndA g f t raw).1 qs ms := by
  obtain ⟨r, hn⟩ := hn
  unfold sndA at hn ⊢
  cases he : endsB f t
  · rw [if_neg (by decide)]; exact h.mono
  · rw [he, if_pos rfl] at hn
    rw [if_pos rfl]
    by_cases hr : g.most ≤ (g.l.length : Int)
    · rw [if_pos hr]; exact h.full hk
    · rw [if_neg hr] at hn; cases hn
set_option maxHeartbeats 8000000 in
theorem bagSums_all {ad : Nat → Addr} {W : World} (L : Lb ad W) (most : Int) (hmost : In64 most) (u : Value) (os : List Opb) (hos : SlOb W u os) :
    Calls Tryd.prog 5 #[.int .i64 most, u] W fun e w' => e = .returned (.bool true) ∧ Below W.heap.size W w' := by
  obtain ⟨ua, uc, rfl⟩ := hos.form
  obtain ⟨M, hM⟩ : ∃ M, wiN most 20 = M := ⟨_, rfl⟩
  have hM20 : M < 20 := by rw [← hM]; exact wiN_lt (by decide)
  have hW1 := within_is most 20 W (by decide) (by decide) hmost
  rw [hM] at hW1
  have HW := hid_of' hW1
  have HN := hid_of' (new_ok (M : Int) (by omega) (by omega) W)
  have HO := hid_of' (And.intro hos L)
  clear hW1 hM hos L hmost
  go_enter Tryd.func5, Tryd.ntmps5
  go_wp2_with (first | (go_at_call 17; refine HW.out.mono ?_; rintro e w1 ⟨rfl, h0⟩; obtain rfl := h0.symm) | (go_at_call 8; refine HN.out.mono ?_; rintro e w1 ⟨rfl, hg1, hb1⟩; clear HN))
  have h0 : SmAt W.heap.size W (.slice none 0 0) (.slice none 0 0) (.slice none 0 0) (bg0 (M : Int)) [] [] w1 := ⟨hg1.mono (fun k hk _ => hk.elim), fun k hk => by (cases hk), ⟨[], Rw.nil _ _ _, rfl, fun i p q h => by simp at h⟩, Rw.nil _ _ _, fun k hk => by (cases hk), fun k hk => by (cases hk), hb1, Nat.le_refl _⟩
  have HS := hid_of' h0
  clear hg1 hb1 h0
  go_loopw [7, 8, 9] (fun sv mv iv wr => ∃ (k : Nat) (v : Value) (g : Bg) (qs : List Pl) (ms : List Int), iv = .int .i64 (k : Int) ∧ k ≤ os.length ∧ k ≤ 250 ∧ SmAt W.heap.size W sv mv v g qs ms wr ∧ SmG k g qs ms) (fun _ _ iv _ => 250 - (intOf iv).toNat)
  case atStart => exact ⟨0, _, _, _, _, rfl, by omega, by omega, HS.out, SmG.new _⟩
  case round =>
    clear HS
    rename_i wr
    obtain ⟨k, vb, g, qs, ms, rfl, hk1, hk2, hA, hG⟩ := hrel
    obtain ⟨ss0, hss0, _⟩ := hA.sn
    obtain ⟨sa, sc, rfl, _, _⟩ := hss0.form
    obtain ⟨ma, mc, rfl, _, _⟩ := hA.my.form
    clear hss0
    have HA := hid_of' (And.intro hA hG)
    clear hA hG
    by_cases hkl : k < os.length
    · by_cases hk250 : k < 250
      · have hki : (k : Int) < (os.length : Int) := by omega
        have hkj : (k : Int) < 250 := by omega
        obtain ⟨gu, ou, op, hua, hOk, hCs⟩ : ∃ gu ou op, ua = some ⟨gu, ou, none⟩ ∧ Opb.Ok W op ∧ CsIn gu (ou + k * 4) (ocb op) W := by
          rcases HO.out.1 with ⟨e, _⟩ | ⟨gu, ou, c, e, h⟩
          · rw [e] at hkl; simp at hkl
          · cases e
            exact ⟨gu, ou, os[k], rfl, (h k _ (List.getElem?_eq_getElem hkl)).1, (h k _ (List.getElem?_eq_getElem hkl)).2⟩
        subst hua
        have HX := hid_of' (And.intro hOk (hCs.ch (S := fun k => W.heap.size ≤ k) (Ch.ofBelow HA.out.1.low) (by have := hCs.1; omega)))
        clear hOk hCs
        have HRv : op.rv.oneCell' = true := HX.out.1.raw.one
        go_upto_region 10 with (first | (refine wpL_loadOb (q := op) rfl _ rfl rfl HX.out.2 ?_) | (refine wpL_stNewOb (q := op) rfl _ _ rfl rfl rfl rfl rfl rfl HRv ?_; go_simp))
        have r1 := row_new wr (ocb op) 43
        have hb1 := below_one wr (.cells (ocb op) 43)
        have hA1 := HA.out.1.later hb1
        have hG1 := HA.out.2
        have hBwr := HA.out.1.bg.lies.lt
        have HV := hid_of' HA.out.1.bg.row.lt
        clear HA
        generalize wr.alloc (.cells (ocb op) 43) = w1 at r1 hb1 hA1 ⊢
        have d0 : w1.cell? ⟨wr.heap.size, 0, none⟩ = some (.int .i64 op.d) := r1.cellIs 0 rfl
        have d1 : w1.cell? ⟨wr.heap.size, 1, none⟩ = some (.int .i64 op.i) := r1.cellIs 1 rfl
        have d2 : w1.cell? ⟨wr.heap.size, 2, none⟩ = some (.int .i64 op.j) := r1.cellIs 2 rfl
        have d3 : w1.cell? ⟨wr.heap.size, 3, none⟩ = some op.rv := r1.cellIs 3 rfl
        have hlt := r1.lt
        obtain ⟨T5, hT⟩ : ∃ T5, wiN op.d 5 = T5 := ⟨_, rfl⟩
        have hT5 : T5 < 5 := by rw [← hT]; exact wiN_lt (by decide)
        have hw5 := within_is op.d 5 w1 (by decide) (by decide) HX.out.1.d
        rw [hT] at hw5
        have HW5 := hid_of' hw5
        have HA := hid_of' (And.intro hA1 (And.intro hG1 r1))
        clear hw5 hT hA1 hG1 r1 hb1
        match T5, hT5 with
        | 0, _ => 
          obtain ⟨ra, rc, hrv⟩ := HX.out.1.raw.form
          rw [hrv] at d3
          have hcap : op.raw.length ≤ rc := HX.out.1.cap _ _ _ hrv
          have hraw0 : SlB W (.slice ra op.raw.length rc) op.raw := by rw [← hrv]; exact HX.out.1.raw
          obtain ⟨i0, hi0, hz0, hz1, hz2⟩ := info_parts info_u8
          have HI := hid_of' (And.intro hi0 (And.intro hz0 (And.intro hz1 hz2)))
          obtain ⟨j0, hj0, hy0, hy1, hy2⟩ := info_parts info_p
          have HJ := hid_of' (And.intro hj0 (And.intro hy0 (And.intro hy1 hy2)))
          obtain ⟨n0, hn0, hx0, hx1, hx2⟩ := info_parts infoInt
          have HNI := hid_of' (And.intro hn0 (And.intro hx0 (And.intro hx1 hx2)))
          have hBl := HA.out.1.bg.lies.lt
          have hvl := HA.out.1.bg.row.lt
          have HNN : Hid (∀ s, w1.heap.size ≤ s → ¬ Bch W.heap.size vb s) := fun s hs e => Or.elim e (fun e => by omega) (fun e => by have := hvl _ e; omega)
          have HNB : Hid (¬ Bch W.heap.size vb wr.heap.size) := fun e => Or.elim e (fun e => by omega) (fun e => by have := HV.out _ e; omega)
          clear hi0 hz0 hz1 hz2 hj0 hy0 hy1 hy2 hn0 hx0 hx1 hx2 hBl hvl hrv
          by_cases h60 : op.raw.length ≤ 60
          · have h60i : ¬ (60 : Int) < (op.raw.length : Int) := by omega
            obtain ⟨R9, hR9⟩ : ∃ R9, op.raw = R9 := ⟨_, rfl⟩
            rw [hR9] at hraw0 d3 h60 h60i
            obtain ⟨A9, hA9⟩ : ∃ A9, sndA g op.i op.j R9 = A9 := ⟨_, rfl⟩
            have HA9 := hid_of' hA9
            have HRW := hid_of' hraw0
            have HRw : Hid (∀ x, Ch (Bch W.heap.size vb) w1 x → So 1 (.slice ra R9.length rc) R9.length (Lib.byteCells R9) x) := fun x hx => by
              by_cases hnil : R9 = []
              · subst hnil; exact ⟨rfl, .inl ⟨rfl, _, _, rfl⟩⟩
              have hl := (hraw0.low (Nat.le_refl _) HA.out.1.low).ch hx (fun k hk e => by
                have hlo := hraw0.lt hnil k hk
                exact Or.elim e (fun e => by omega) (fun e => by have := HA.out.1.vN k e; omega))
              exact hl.so
            have HSn : Hid (∀ x, Below w1.heap.size w1 x → ∀ ru, Rw 5 1 ru R9.length (Lib.byteCells R9) x → (∀ k, ru.ownBlock = some k → w1.heap.size ≤ k) → Calls Tryd.prog 18 #[.pointer (some ⟨W.heap.size, 0, none⟩), .int .i64 op.i, .int .i64 op.j, ru] x fun r x1 => ∃ v1, r = .returned v1 ∧ SndQ ad W.heap.size w1 vb W.heap.size A9 v1 x1 ∧ Ch (Bch W.heap.size vb) x x1) := fun x hx ru hru hrk => by
              have hbs : BsAt (fun k => w1.heap.size ≤ k) ru R9 x := ⟨hru, hrk⟩
              have hs := send_any (HO.out.2.below (HA.out.1.low.trans (hx.mono HA.out.1.low.size))) (show 2 < W.heap.size from World.block_lt_of_cell? _ _ (HO.out.2 12 (by decide))) (HA.out.1.bg.later hx) op.i op.j hbs.sl (by omega) (fun k hk => HNN.out k (hrk k hk))
              rw [HA9.out] at hs
              refine hs.mono ?_
              rintro r x1 ⟨u, v', rfl, h1, h2, h3, h4⟩
              have hsx := hx.size
              have hsl := HA.out.1.low.size
              refine ⟨_, rfl, ⟨u, v', rfl, ?_, h2.mono (fun k hk _ => hk.elim id (fun q => by omega)), fun k hk => (h3 k hk).elim .inl (fun q => .inr (by omega))⟩, h4⟩
              exact ErrR.mono h1 hsx
            clear hraw0 hA9
            go_upto_region 16 with (go_at_call 17; refine HW5.out.mono ?_; rintro e w2 ⟨rfl, h0⟩; obtain rfl := h0.symm)
            clear d0 d1 d2 d3
            refine wp_region_once 14 (by kernel_rfl) (fun _ => none) (by kernel_rfl) (by kernel_rfl) (by decide) (fun i v x => match i with
              | 0 => v = .pointer (some ⟨W.heap.size, 0, none⟩)
              | 1 => v = .pointer (some ⟨wr.heap.size, 1, none⟩)
              | 2 => v = .int .i64 op.i
              | 3 => v = .pointer (some ⟨wr.heap.size, 2, none⟩)
              | 4 => v = .int .i64 op.j
              | 5 => ∃ ge, v = .slice (some ⟨ge, 0, none⟩) 0 0 ∧ w1.heap.size ≤ ge ∧ RowAt ge #[] 5 x
              | 6 => v = .slice ra R9.length rc
              | 7 => Rw 5 1 v R9.length (Lib.byteCells R9) x ∧ ∀ k, v.ownBlock = some k → w1.heap.size ≤ k
              | 8 => SndQ ad W.heap.size w1 vb W.heap.size A9 v x
              | 9 => ∃ u, v = .tuple #[.int .i64 A9.2.1, u] ∧ ErrR ad w1.heap.size A9.2.2 u x
              | 10 => v = .int .i64 A9.2.1
              | 11 => ErrR ad w1.heap.size A9.2.2 v x
              | 12 => v = .int .i64 A9.2.1
              | 13 => ErrR ad w1.heap.size A9.2.2 v x
              | _ => True) (fun _ => false) (fun _ _ _ _ h => by cases h) 8 (by decide) (fun a b => Ch (Bch W.heap.size vb) a b) (fun a b => Ch (Bch W.heap.size vb) a b) (fun _ _ g h => g.later h) (fun _ h => Ch.of h) (fun _ _ h g => (Ch.of h).trans g) (fun _ _ g => g.size) ?_ ?_ ?_ ?_
            · intro i v x x' hR hb
              match i, hR with
              | 0, h => exact h
              | 1, h => exact h
              | 2, h => exact h
              | 3, h => exact h
              | 4, h => exact h
              | 5, h => exact (by obtain ⟨ge, h1, h2, h3⟩ := h; exact ⟨ge, h1, h2, h3.later hb⟩)
              | 6, h => exact h
              | 7, h => exact ⟨h.1.later hb, h.2⟩
              | 8, h => exact h.later hb
              | 9, h => exact (by obtain ⟨u, h1, h2⟩ := h; exact ⟨u, h1, h2.later hb⟩)
              | 10, h => exact h
              | 11, h => exact h.later hb
              | 12, h => exact h
              | 13, h => exact h.later hb
              | m + 14, h => exact h
            · intro i v x x' hne hR hb
              match i, hne, hR with
              | 0, hne, h => exact h
              | 1, hne, h => exact h
              | 2, hne, h => exact h
              | 3, hne, h => exact h
              | 4, hne, h => exact h
              | 5, hne, h => exact (by obtain ⟨ge, h1, h2, h3⟩ := h; exact ⟨ge, h1, h2, h3.ch hb (HNN.out ge h2)⟩)
              | 6, hne, h => exact h
              | 7, hne, h => exact ⟨h.1.ch hb (fun k hk => HNN.out k (h.2 k hk)), h.2⟩
              | 8, hne, h => exact absurd rfl hne
              | 9, hne, h => exact (by obtain ⟨u, h1, h2⟩ := h; exact ⟨u, h1, h2.ch hb HNN.out⟩)
              | 10, hne, h => exact h
              | 11, hne, h => exact h.ch hb HNN.out
              | 12, hne, h => exact h
              | 13, hne, h => exact h.ch hb HNN.out
              | m + 14, _, h => exact h
            · intro i o hi ho q x vals hX hC hdep hoth
              have t5 : q.tmps[5]? = some (.pointer (some ⟨W.heap.size, 0, none⟩)) := by rw [hoth 5 (by kernel_rfl)]; rfl
              have t10 : q.tmps[10]? = some (.pointer (some ⟨wr.heap.size, 0, none⟩)) := by rw [hoth 10 (by kernel_rfl)]; rfl
              have t11 : q.tmps[11]? = some (.slice ra R9.length rc) := by rw [hoth 11 (by kernel_rfl)]; rfl
              match i, hi, ho, hC with
              | 0, _, ho, hC =>
                simp only [List.getElem?_cons_zero, Option.some.injEq] at ho
                subst ho
                unfold Oper.wp
                simp [execOp, go_sem, t5]
                exact cameB _ rfl (by decide) (Below.refl _ _) rfl (fun h => absurd h (by decide))
              | 1, _, ho, hC =>
                simp only [List.getElem?_cons_succ, List.getElem?_cons_zero, Option.some.injEq] at ho
                subst ho
                unfold Oper.wp
                simp [execOp, go_sem, t10]
                exact cameB _ rfl (by decide) (Below.refl _ _) rfl (fun h => absurd h (by decide))
              | 2, _, ho, hC =>
                simp only [List.getElem?_cons_succ, List.getElem?_cons_zero, Option.some.injEq] at ho
                subst ho
                obtain ⟨u1, e1⟩ := hdep ⟨1, .data⟩ (by simp) rfl _ 69 rfl rfl
                rw [show vals 1 = .pointer (some ⟨wr.heap.size, 1, none⟩) from e1] at u1
                have cc : x.cell? ⟨wr.heap.size, 1, none⟩ = some (.int .i64 op.i) := (HA.out.2.2.ch hX HNB.out).cellIs 1 rfl
                unfold Oper.wp
                simp [execOp, go_sem, u1, cc]
                exact cameB _ rfl (by decide) (Below.refl _ _) rfl (fun h => absurd h (by decide))
              | 3, _, ho, hC =>
                simp only [List.getElem?_cons_succ, List.getElem?_cons_zero, Option.some.injEq] at ho
                subst ho
                unfold Oper.wp
                simp [execOp, go_sem, t10]
                exact cameB _ rfl (by decide) (Below.refl _ _) rfl (fun h => absurd h (by decide))
              | 4, _, ho, hC =>
                simp only [List.getElem?_cons_succ, List.getElem?_cons_zero, Option.some.injEq] at ho
                subst ho
                obtain ⟨u3, e3⟩ := hdep ⟨3, .data⟩ (by simp) rfl _ 71 rfl rfl
                rw [show vals 3 = .pointer (some ⟨wr.heap.size, 2, none⟩) from e3] at u3
                have cc : x.cell? ⟨wr.heap.size, 2, none⟩ = some (.int .i64 op.j) := (HA.out.2.2.ch hX HNB.out).cellIs 2 rfl
                unfold Oper.wp
                simp [execOp, go_sem, u3, cc]
                exact cameB _ rfl (by decide) (Below.refl _ _) rfl (fun h => absurd h (by decide))
              | 5, _, ho, hC =>
                simp only [List.getElem?_cons_succ, List.getElem?_cons_zero, Option.some.injEq] at ho
                subst ho
                have hgx := hX.size
                unfold Oper.wp
                simp [execOp, go_sem]
                exact cameB _ rfl (by decide) (below_one _ _) ⟨x.heap.size, rfl, by omega, row_new x _ _⟩ (fun h => absurd h (by decide))
              | 6, _, ho, hC =>
                simp only [List.getElem?_cons_succ, List.getElem?_cons_zero, Option.some.injEq] at ho
                subst ho
                unfold Oper.wp
                simp [execOp, go_sem, t11]
                exact cameB _ rfl (by decide) (Below.refl _ _) rfl (fun h => absurd h (by decide))
              | 7, _, ho, hC =>
                simp only [List.getElem?_cons_succ, List.getElem?_cons_zero, Option.some.injEq] at ho
                subst ho
                obtain ⟨u5, e5⟩ := hdep ⟨5, .data⟩ (by simp) rfl _ 73 rfl rfl
                obtain ⟨u6, e6⟩ := hdep ⟨6, .data⟩ (by simp) rfl _ 74 rfl rfl
                rw [show vals 6 = .slice ra R9.length rc from e6] at u6
                obtain ⟨ge, e5, h2, h3⟩ : ∃ ge, vals 5 = .slice (some ⟨ge, 0, none⟩) 0 0 ∧ w1.heap.size ≤ ge ∧ RowAt ge #[] 5 x := e5
                rw [e5] at u5
                have hgx := hX.size
                refine opw_app0 (P := Tryd.prog) _ _ 41 rfl 5 i0 _ 1 1 Tryd.underlying41 HI.out.1 HI.out.2.1 HI.out.2.2.1 HI.out.2.2.2 rfl (by simp [Act.eval, u5]) (by simp [Act.eval, u6]) h3 (HRw.out x hX) (byteCells_one R9) (by unfold maxLen; omega) (by omega) ?_
                intro v' x' q1 q2 q3
                exact cameB _ rfl (by decide) q2 ⟨q1, fun k hk => (q3 k hk).elim (fun q => by omega) (fun q => by omega)⟩ (fun h => absurd h (by decide))
              | 8, _, ho, hC =>
                simp only [List.getElem?_cons_succ, List.getElem?_cons_zero, Option.some.injEq] at ho
                subst ho
                obtain ⟨u0, e0⟩ := hdep ⟨0, .data⟩ (by simp) rfl _ 68 rfl rfl
                rw [show vals 0 = .pointer (some ⟨W.heap.size, 0, none⟩) from e0] at u0
                obtain ⟨u2, e2⟩ := hdep ⟨2, .data⟩ (by simp) rfl _ 70 rfl rfl
                rw [show vals 2 = .int .i64 op.i from e2] at u2
                obtain ⟨u4, e4⟩ := hdep ⟨4, .data⟩ (by simp) rfl _ 72 rfl rfl
                rw [show vals 4 = .int .i64 op.j from e4] at u4
                obtain ⟨u7, e7⟩ := hdep ⟨7, .data⟩ (by simp) rfl _ 75 rfl rfl
                unfold Oper.wp
                simp [go_sem, u0, u2, u4, u7]
                refine (HSn.out x (hC (.inl rfl)) (vals 7) e7.1 e7.2).mono ?_
                rintro r x1 ⟨v1, rfl, hq1, hb1⟩
                exact cameX _ rfl hb1 hq1 rfl
              | 9, _, ho, hC =>
                simp only [List.getElem?_cons_succ, List.getElem?_cons_zero, Option.some.injEq] at ho
                subst ho
                obtain ⟨u8, e8⟩ := hdep ⟨8, .data⟩ (by simp) rfl _ 76 rfl rfl
                unfold Oper.wp
                simp [execOp, go_sem, u8]
                exact cameB _ rfl (by decide) (Below.refl _ _) (SndQ.err e8) (fun h => absurd h (by decide))
              | 10, _, ho, hC =>
                simp only [List.getElem?_cons_succ, List.getElem?_cons_zero, Option.some.injEq] at ho
                subst ho
                obtain ⟨u9, e9⟩ := hdep ⟨9, .data⟩ (by simp) rfl _ 67 rfl rfl
                obtain ⟨u, e9, _⟩ : ∃ u, vals 9 = .tuple #[.int .i64 A9.2.1, u] ∧ ErrR ad w1.heap.size A9.2.2 u x := e9
                rw [e9] at u9
                unfold Oper.wp
                simp [execOp, go_sem, u9]
                exact cameB _ rfl (by decide) (Below.refl _ _) rfl (fun h => absurd h (by decide))
              | 11, _, ho, hC =>
                simp only [List.getElem?_cons_succ, List.getElem?_cons_zero, Option.some.injEq] at ho
                subst ho
                obtain ⟨u9, e9⟩ := hdep ⟨9, .data⟩ (by simp) rfl _ 67 rfl rfl
                obtain ⟨u, e9, h9⟩ : ∃ u, vals 9 = .tuple #[.int .i64 A9.2.1, u] ∧ ErrR ad w1.heap.size A9.2.2 u x := e9
                rw [e9] at u9
                unfold Oper.wp
                simp [execOp, go_sem, u9]
                exact cameB _ rfl (by decide) (Below.refl _ _) h9 (fun h => absurd h (by decide))
              | 12, _, ho, hC =>
                simp only [List.getElem?_cons_succ, List.getElem?_cons_zero, Option.some.injEq] at ho
                subst ho
                obtain ⟨u10, e10⟩ := hdep ⟨10, .data⟩ (by simp) rfl _ 77 rfl rfl
                rw [show vals 10 = .int .i64 A9.2.1 from e10] at u10
                unfold Oper.wp
                simp [execOp, go_sem, u10]
                exact cameB _ rfl (by decide) (Below.refl _ _) rfl (fun h => absurd h (by decide))
              | 13, _, ho, hC =>
                simp only [List.getElem?_cons_succ, List.getElem?_cons_zero, Option.some.injEq] at ho
                subst ho
                obtain ⟨u11, e11⟩ := hdep ⟨11, .data⟩ (by simp) rfl _ 78 rfl rfl
                unfold Oper.wp
                simp [execOp, go_sem, u11]
                exact cameB _ rfl (by decide) (Below.refl _ _) e11 (fun h => absurd h (by decide))
              | m + 14, hi, _, _ => exact absurd hi (by omega)
            · intro vals x hX hR _
              have q8 : SndQ ad W.heap.size w1 vb W.heap.size A9 (vals 8) x := hR 8 (by decide)
              have e12 : vals 12 = .int .i64 A9.2.1 := hR 12 (by decide)
              have e13 : ErrR ad w1.heap.size A9.2.2 (vals 13) x := hR 13 (by decide)
              obtain ⟨u8, v8, _, _, hg8, ha8⟩ := q8
              have hA8 := HA.out.1.step hX hg8 ha8
              have r10 := HA.out.2.2.ch hX HNB.out
              have hG8 := HA.out.2.1
              simp only [List.drop, List.take, putAll, List.setIfInBounds_toArray, List.set_cons_succ, List.set_cons_zero, e12]
              clear HA HSn hR hX hg8 ha8 HNB HNN HRw e12
              generalize vals 13 = ev at e13 ⊢
              cases hno : A9.2.2 with
              | some rr =>
                rw [hno] at e13
                obtain ⟨rr1, rr2, rr3⟩ := rr
                obtain ⟨eb, rfl, _, _, _⟩ := e13
                have hA5 := hA8
                have hG5 : SmG (k + 1) A9.1 qs ms := by rw [← HA9.out]; exact hG8.sndA0 (by omega) op.i op.j R9 (by rw [HA9.out, hno]; exact ⟨_, rfl⟩)
                clear hA8 hG8 r10 hno HA9
                generalize A9.1 = g5 at hA5 hG5
                generalize A9.2.1 = n5
                go_upto_region 35 with fail
                have hG6 := hG5.sums (by omega)
                have hsum : (wrap64 (g5.sent + g5.dbl) != wrap64 (wrap64 (g5.arr + g5.drp) + (g5.l.length : Int))) = false := by rw [hG6]; simp
                have HC := hid_of' (counts_is hA5.bg)
                have H5 := hid_of' (And.intro hA5 hG5)
                clear hG6 hA5 hG5
                go_wp2_with (first | (go_at_call 25; refine HC.out.mono ?_; rintro e w6 ⟨rfl, hb6⟩; clear HC; have HL := hid_of' (len_is (H5.out.1.bg.later hb6)); have HB6 := hid_of' hb6; clear hb6) | (go_at_call 13; refine HL.out.mono ?_; rintro e w7 ⟨rfl, h0⟩; obtain rfl := h0.symm))
                go_roundw
                case rel => exact ⟨k + 1, _, g5, _, _, by go_num, by omega, by omega, H5.out.1.later HB6.out, H5.out.2⟩
                case measure => simp [intOf]; omega
              | none =>
                rw [hno] at e13
                have hev : ev = .nilIface := e13
                subst hev
                obtain ⟨hq1, hq2⟩ : A9.1 = sndG g op.i op.j R9 ∧ A9.2.1 = wrap64 (g.last + 1) := by rw [← HA9.out] at hno ⊢; exact sndA_ok hno
                have hn5 : A9.2.1 = (qs.length : Int) + 1 := by rw [hq2, hG8.last]; have := hG8.le; exact wrap_sm (by omega) (by omega)
                have hG5 := hG8.send (by omega) op.i op.j R9
                rw [← hq1] at hG5
                obtain ⟨ss, hs1, hs2⟩ := hA8.sn
                rw [hn5]
                have H8 := hid_of' (And.intro hA8 (And.intro hG5 (And.intro hs1 (And.intro hs2 r10))))
                have hql := hG8.le
                have hmq := hG8.len
                have HMQ := hid_of' hmq
                have d1 : x.cell? ⟨wr.heap.size, 1, none⟩ = some (.int .i64 op.i) := r10.cellIs 1 rfl
                have d2 : x.cell? ⟨wr.heap.size, 2, none⟩ = some (.int .i64 op.j) := r10.cellIs 2 rfl
                clear hA8 hG8 hG5 hs1 hs2 hno hq1 hq2 hn5 HA9 r10 e13 hmq
                go_upto_region 19 with (first | (refine wpL_one (p := ⟨(qs.length : Int) + 1, op.i, op.j, .slice ra R9.length rc⟩) rfl _ rfl rfl rfl ?_) | (at_builtin; refine wpL_app (P := Tryd.prog) rfl _ _ 45 rfl 56 j0 _ 4 48 Tryd.underlying45 HJ.out.1 HJ.out.2.1 HJ.out.2.2.1 HJ.out.2.2.2 rfl rfl rfl (H8.out.2.2.1.later (below_one _ _)) (so_one (p := ⟨(qs.length : Int) + 1, op.i, op.j, .slice ra R9.length rc⟩) (row_new _ _ _).in) (pcells_one [⟨(qs.length : Int) + 1, op.i, op.j, .slice ra R9.length rc⟩] (fun p' hp => by rw [List.mem_singleton] at hp; subst hp; rfl)) (by unfold maxLen; omega) (by omega) ?_; intro sv9 w9 hr9 hgr9 hat9))
                obtain ⟨s9a, s9c, rfl, _, _⟩ := hr9.form
                have hA9 := (H8.out.1.later (below_one x (.cells (pcv ⟨(qs.length : Int) + 1, op.i, op.j, .slice ra R9.length rc⟩) 56))).sent H8.out.2.2.2.1 (p := ⟨(qs.length : Int) + 1, op.i, op.j, .slice ra R9.length rc⟩) (q := ⟨(qs.length : Int) + 1, op.i, op.j, R9⟩) ⟨rfl, rfl, rfl, HRW.out⟩ hr9 hgr9 hat9
                have H9 := hid_of' (And.intro hA9 H8.out.2.1)
                clear hr9 hgr9 hat9 hA9 H8 d1 d2
                go_upto_region 20 with (at_builtin; refine wpL_app (P := Tryd.prog) rfl _ _ 30 rfl 3 n0 _ 1 8 Tryd.underlying30 HNI.out.1 HNI.out.2.1 HNI.out.2.2.1 HNI.out.2.2.2 rfl rfl rfl (H9.out.1.my.later (below_one _ _)) (so_int _ 1) (ints_one [1]) (by have := HMQ.out; unfold maxLen; omega) (by have := HMQ.out; omega) ?_; intro mv9 w8 hr8 hgr8 hat8)
                obtain ⟨m9a, m9c, rfl, _, _⟩ := hr8.form
                have hA5 : SmAt W.heap.size W (.slice s9a (qs.length + 1) s9c) (.slice m9a (ms.length + 1) m9c) v8 A9.1 (qs ++ [⟨(qs.length : Int) + 1, op.i, op.j, R9⟩]) (ms ++ [1]) w8 := by
                  have h1 := H9.out.1.later (below_one w9 (.cells #[.int .i64 1] 3))
                  refine h1.mayR ?_ (grown_ch hgr8) hat8
                  rw [List.length_append, List.length_singleton, show ints (ms ++ [1]) = ints ms ++ ints [1] by simp [ints]]
                  exact hr8
                have hG5 := H9.out.2
                clear hr8 hgr8 hat8 H9
                generalize A9.1 = g5 at hA5 hG5
                have H5a := hid_of' (And.intro hA5 hG5)
                clear hA5 hG5
                go_upto_region 35 with fail
                obtain ⟨hA5, hG5⟩ := H5a.out
                clear H5a
                have hG6 := hG5.sums (by omega)
                have hsum : (wrap64 (g5.sent + g5.dbl) != wrap64 (wrap64 (g5.arr + g5.drp) + (g5.l.length : Int))) = false := by rw [hG6]; simp
                have HC := hid_of' (counts_is hA5.bg)
                have H5 := hid_of' (And.intro hA5 hG5)
                clear hG6 hA5 hG5
                go_wp2_with (first | (go_at_call 25; refine HC.out.mono ?_; rintro e w6 ⟨rfl, hb6⟩; clear HC; have HL := hid_of' (len_is (H5.out.1.bg.later hb6)); have HB6 := hid_of' hb6; clear hb6) | (go_at_call 13; refine HL.out.mono ?_; rintro e w7 ⟨rfl, h0⟩; obtain rfl := h0.symm))
                go_roundw
                case rel => exact ⟨k + 1, _, g5, _, _, by go_num, by omega, by omega, H5.out.1.later HB6.out, H5.out.2⟩
                case measure => simp [intOf]; omega
          · have h60i : (60 : Int) < (op.raw.length : Int) := by omega
            have h60c : (60 : Int) ≤ (rc : Int) := by omega
            have ht := hraw0.take (n := 60) (by omega)
            have hl60 : (op.raw.take 60).length = 60 := by rw [List.length_take]; omega
            obtain ⟨R9, hR9⟩ : ∃ R9, op.raw.take 60 = R9 := ⟨_, rfl⟩
            rw [hR9] at ht hl60
            have hraw0 : SlB W (.slice ra R9.length rc) R9 := by rw [hl60]; exact ht
            have h60 : R9.length ≤ 60 := by omega
            have HL60 := hid_of' hl60
            clear ht hl60
            obtain ⟨A9, hA9⟩ : ∃ A9, sndA g op.i op.j R9 = A9 := ⟨_, rfl⟩
            have HA9 := hid_of' hA9
            have HRW := hid_of' hraw0
            have HRw : Hid (∀ x, Ch (Bch W.heap.size vb) w1 x → So 1 (.slice ra R9.length rc) R9.length (Lib.byteCells R9) x) := fun x hx => by
              by_cases hnil : R9 = []
              · subst hnil; exact ⟨rfl, .inl ⟨rfl, _, _, rfl⟩⟩
              have hl := (hraw0.low (Nat.le_refl _) HA.out.1.low).ch hx (fun k hk e => by
                have hlo := hraw0.lt hnil k hk
                exact Or.elim e (fun e => by omega) (fun e => by have := HA.out.1.vN k e; omega))
              exact hl.so
            have HSn : Hid (∀ x, Below w1.heap.size w1 x → ∀ ru, Rw 5 1 ru R9.length (Lib.byteCells R9) x → (∀ k, ru.ownBlock = some k → w1.heap.size ≤ k) → Calls Tryd.prog 18 #[.pointer (some ⟨W.heap.size, 0, none⟩), .int .i64 op.i, .int .i64 op.j, ru] x fun r x1 => ∃ v1, r = .returned v1 ∧ SndQ ad W.heap.size w1 vb W.heap.size A9 v1 x1 ∧ Ch (Bch W.heap.size vb) x x1) := fun x hx ru hru hrk => by
              have hbs : BsAt (fun k => w1.heap.size ≤ k) ru R9 x := ⟨hru, hrk⟩
              have hs := send_any (HO.out.2.below (HA.out.1.low.trans (hx.mono HA.out.1.low.size))) (show 2 < W.heap.size from World.block_lt_of_cell? _ _ (HO.out.2 12 (by decide))) (HA.out.1.bg.later hx) op.i op.j hbs.sl (by omega) (fun k hk => HNN.out k (hrk k hk))
              rw [HA9.out] at hs
              refine hs.mono ?_
              rintro r x1 ⟨u, v', rfl, h1, h2, h3, h4⟩
              have hsx := hx.size
              have hsl := HA.out.1.low.size
              refine ⟨_, rfl, ⟨u, v', rfl, ?_, h2.mono (fun k hk _ => hk.elim id (fun q => by omega)), fun k hk => (h3 k hk).elim .inl (fun q => .inr (by omega))⟩, h4⟩
              exact ErrR.mono h1 hsx
            clear hraw0 hA9
            go_upto_region 16 with (go_at_call 17; refine HW5.out.mono ?_; rintro e w2 ⟨rfl, h0⟩; obtain rfl := h0.symm)
            rw [show (60 : Nat) = R9.length from HL60.out.symm]
            clear d0 d1 d2 d3 h60i h60c
            refine wp_region_once 14 (by kernel_rfl) (fun _ => none) (by kernel_rfl) (by kernel_rfl) (by decide) (fun i v x => match i with
              | 0 => v = .pointer (some ⟨W.heap.size, 0, none⟩)
              | 1 => v = .pointer (some ⟨wr.heap.size, 1, none⟩)
              | 2 => v = .int .i64 op.i
              | 3 => v = .pointer (some ⟨wr.heap.size, 2, none⟩)
              | 4 => v = .int .i64 op.j
              | 5 => ∃ ge, v = .slice (some ⟨ge, 0, none⟩) 0 0 ∧ w1.heap.size ≤ ge ∧ RowAt ge #[] 5 x
              | 6 => v = .slice ra R9.length rc
              | 7 => Rw 5 1 v R9.length (Lib.byteCells R9) x ∧ ∀ k, v.ownBlock = some k → w1.heap.size ≤ k
              | 8 => SndQ ad W.heap.size w1 vb W.heap.size A9 v x
              | 9 => ∃ u, v = .tuple #[.int .i64 A9.2.1, u] ∧ ErrR ad w1.heap.size A9.2.2 u x
              | 10 => v = .int .i64 A9.2.1
              | 11 => ErrR ad w1.heap.size A9.2.2 v x
              | 12 => v = .int .i64 A9.2.1
              | 13 => ErrR ad w1.heap.size A9.2.2 v x
              | _ => True) (fun _ => false) (fun _ _ _ _ h => by cases h) 8 (by decide) (fun a b => Ch (Bch W.heap.size vb) a b) (fun a b => Ch (Bch W.heap.size vb) a b) (fun _ _ g h => g.later h) (fun _ h => Ch.of h) (fun _ _ h g => (Ch.of h).trans g) (fun _ _ g => g.size) ?_ ?_ ?_ ?_
            · intro i v x x' hR hb
              match i, hR with
              | 0, h => exact h
              | 1, h => exact h
              | 2, h => exact h
              | 3, h => exact h
              | 4, h => exact h
              | 5, h => exact (by obtain ⟨ge, h1, h2, h3⟩ := h; exact ⟨ge, h1, h2, h3.later hb⟩)
              | 6, h => exact h
              | 7, h => exact ⟨h.1.later hb, h.2⟩
              | 8, h => exact h.later hb
              | 9, h => exact (by obtain ⟨u, h1, h2⟩ := h; exact ⟨u, h1, h2.later hb⟩)
              | 10, h => exact h
              | 11, h => exact h.later hb
              | 12, h => exact h
              | 13, h => exact h.later hb
              | m + 14, h => exact h
            · intro i v x x' hne hR hb
              match i, hne, hR with
              | 0, hne, h => exact h
              | 1, hne, h => exact h
              | 2, hne, h => exact h
              | 3, hne, h => exact h
              | 4, hne, h => exact h
              | 5, hne, h => exact (by obtain ⟨ge, h1, h2, h3⟩ := h; exact ⟨ge, h1, h2, h3.ch hb (HNN.out ge h2)⟩)
              | 6, hne, h => exact h
              | 7, hne, h => exact ⟨h.1.ch hb (fun k hk => HNN.out k (h.2 k hk)), h.2⟩
              | 8, hne, h => exact absurd rfl hne
              | 9, hne, h => exact (by obtain ⟨u, h1, h2⟩ := h; exact ⟨u, h1, h2.ch hb HNN.out⟩)
              | 10, hne, h => exact h
              | 11, hne, h => exact h.ch hb HNN.out
              | 12, hne, h => exact h
              | 13, hne, h => exact h.ch hb HNN.out
              | m + 14, _, h => exact h
            · intro i o hi ho q x vals hX hC hdep hoth
              have t5 : q.tmps[5]? = some (.pointer (some ⟨W.heap.size, 0, none⟩)) := by rw [hoth 5 (by kernel_rfl)]; rfl
              have t10 : q.tmps[10]? = some (.pointer (some ⟨wr.heap.size, 0, none⟩)) := by rw [hoth 10 (by kernel_rfl)]; rfl
              have t11 : q.tmps[11]? = some (.slice ra R9.length rc) := by rw [hoth 11 (by kernel_rfl)]; rfl
              match i, hi, ho, hC with
              | 0, _, ho, hC =>
                simp only [List.getElem?_cons_zero, Option.some.injEq] at ho
                subst ho
                unfold Oper.wp
                simp [execOp, go_sem, t5]
                exact cameB _ rfl (by decide) (Below.refl _ _) rfl (fun h => absurd h (by decide))
              | 1, _, ho, hC =>
                simp only [List.getElem?_cons_succ, List.getElem?_cons_zero, Option.some.injEq] at ho
                subst ho
                unfold Oper.wp
                simp [execOp, go_sem, t10]
                exact cameB _ rfl (by decide) (Below.refl _ _) rfl (fun h => absurd h (by decide))
              | 2, _, ho, hC =>
                simp only [List.getElem?_cons_succ, List.getElem?_cons_zero, Option.some.injEq] at ho
                subst ho
                obtain ⟨u1, e1⟩ := hdep ⟨1, .data⟩ (by simp) rfl _ 69 rfl rfl
                rw [show vals 1 = .pointer (some ⟨wr.heap.size, 1, none⟩) from e1] at u1
                have cc : x.cell? ⟨wr.heap.size, 1, none⟩ = some (.int .i64 op.i) := (HA.out.2.2.ch hX HNB.out).cellIs 1 rfl
                unfold Oper.wp
                simp [execOp, go_sem, u1, cc]
                exact cameB _ rfl (by decide) (Below.refl _ _) rfl (fun h => absurd h (by decide))
              | 3, _, ho, hC =>
                simp only [List.getElem?_cons_succ, List.getElem?_cons_zero, Option.some.injEq] at ho
                subst ho
                unfold Oper.wp
                simp [execOp, go_sem, t10]
                exact cameB _ rfl (by decide) (Below.refl _ _) rfl (fun h => absurd h (by decide))
              | 4, _, ho, hC =>
                simp only [List.getElem?_cons_succ, List.getElem?_cons_zero, Option.some.injEq] at ho
                subst ho
                obtain ⟨u3, e3⟩ := hdep ⟨3, .data⟩ (by simp) rfl _ 71 rfl rfl
                rw [show vals 3 = .pointer (some ⟨wr.heap.size, 2, none⟩) from e3] at u3
                have cc : x.cell? ⟨wr.heap.size, 2, none⟩ = some (.int .i64 op.j) := (HA.out.2.2.ch hX HNB.out).cellIs 2 rfl
                unfold Oper.wp
                simp [execOp, go_sem, u3, cc]
                exact cameB _ rfl (by decide) (Below.refl _ _) rfl (fun h => absurd h (by decide))
              | 5, _, ho, hC =>
                simp only [List.getElem?_cons_succ, List.getElem?_cons_zero, Option.some.injEq] at ho
                subst ho
                have hgx := hX.size
                unfold Oper.wp
                simp [execOp, go_sem]
                exact cameB _ rfl (by decide) (below_one _ _) ⟨x.heap.size, rfl, by omega, row_new x _ _⟩ (fun h => absurd h (by decide))
              | 6, _, ho, hC =>
                simp only [List.getElem?_cons_succ, List.getElem?_cons_zero, Option.some.injEq] at ho
                subst ho
                unfold Oper.wp
                simp [execOp, go_sem, t11]
                exact cameB _ rfl (by decide) (Below.refl _ _) rfl (fun h => absurd h (by decide))
              | 7, _, ho, hC =>
                simp only [List.getElem?_cons_succ, List.getElem?_cons_zero, Option.some.injEq] at ho
                subst ho
                obtain ⟨u5, e5⟩ := hdep ⟨5, .data⟩ (by simp) rfl _ 73 rfl rfl
                obtain ⟨u6, e6⟩ := hdep ⟨6, .data⟩ (by simp) rfl _ 74 rfl rfl
                rw [show vals 6 = .slice ra R9.length rc from e6] at u6
                obtain ⟨ge, e5, h2, h3⟩ : ∃ ge, vals 5 = .slice (some ⟨ge, 0, none⟩) 0 0 ∧ w1.heap.size ≤ ge ∧ RowAt ge #[] 5 x := e5
                rw [e5] at u5
                have hgx := hX.size
                refine opw_app0 (P := Tryd.prog) _ _ 41 rfl 5 i0 _ 1 1 Tryd.underlying41 HI.out.1 HI.out.2.1 HI.out.2.2.1 HI.out.2.2.2 rfl (by simp [Act.eval, u5]) (by simp [Act.eval, u6]) h3 (HRw.out x hX) (byteCells_one R9) (by unfold maxLen; omega) (by omega) ?_
                intro v' x' q1 q2 q3
                exact cameB _ rfl (by decide) q2 ⟨q1, fun k hk => (q3 k hk).elim (fun q => by omega) (fun q => by omega)⟩ (fun h => absurd h (by decide))
              | 8, _, ho, hC =>
                simp only [List.getElem?_cons_succ, List.getElem?_cons_zero, Option.some.injEq] at ho
                subst ho
                obtain ⟨u0, e0⟩ := hdep ⟨0, .data⟩ (by simp) rfl _ 68 rfl rfl
                rw [show vals 0 = .pointer (some ⟨W.heap.size, 0, none⟩) from e0] at u0
                obtain ⟨u2, e2⟩ := hdep ⟨2, .data⟩ (by simp) rfl _ 70 rfl rfl
                rw [show vals 2 = .int .i64 op.i from e2] at u2
                obtain ⟨u4, e4⟩ := hdep ⟨4, .data⟩ (by simp) rfl _ 72 rfl rfl
                rw [show vals 4 = .int .i64 op.j from e4] at u4
                obtain ⟨u7, e7⟩ := hdep ⟨7, .data⟩ (by simp) rfl _ 75 rfl rfl
                unfold Oper.wp
                simp [go_sem, u0, u2, u4, u7]
                refine (HSn.out x (hC (.inl rfl)) (vals 7) e7.1 e7.2).mono ?_
                rintro r x1 ⟨v1, rfl, hq1, hb1⟩
                exact cameX _ rfl hb1 hq1 rfl
              | 9, _, ho, hC =>
                simp only [List.getElem?_cons_succ, List.getElem?_cons_zero, Option.some.injEq] at ho
                subst ho
                obtain ⟨u8, e8⟩ := hdep ⟨8, .data⟩ (by simp) rfl _ 76 rfl rfl
                unfold Oper.wp
                simp [execOp, go_sem, u8]
                exact cameB _ rfl (by decide) (Below.refl _ _) (SndQ.err e8) (fun h => absurd h (by decide))
              | 10, _, ho, hC =>
                simp only [List.getElem?_cons_succ, List.getElem?_cons_zero, Option.some.injEq] at ho
                subst ho
                obtain ⟨u9, e9⟩ := hdep ⟨9, .data⟩ (by simp) rfl _ 67 rfl rfl
                obtain ⟨u, e9, _⟩ : ∃ u, vals 9 = .tuple #[.int .i64 A9.2.1, u] ∧ ErrR ad w1.heap.size A9.2.2 u x := e9
                rw [e9] at u9
                unfold Oper.wp
                simp [execOp, go_sem, u9]
                exact cameB _ rfl (by decide) (Below.refl _ _) rfl (fun h => absurd h (by decide))
              | 11, _, ho, hC =>
                simp only [List.getElem?_cons_succ, List.getElem?_cons_zero, Option.some.injEq] at ho
                subst ho
                obtain ⟨u9, e9⟩ := hdep ⟨9, .data⟩ (by simp) rfl _ 67 rfl rfl
                obtain ⟨u, e9, h9⟩ : ∃ u, vals 9 = .tuple #[.int .i64 A9.2.1, u] ∧ ErrR ad w1.heap.size A9.2.2 u x := e9
                rw [e9] at u9
                unfold Oper.wp
                simp [execOp, go_sem, u9]
                exact cameB _ rfl (by decide) (Below.refl _ _) h9 (fun h => absurd h (by decide))
              | 12, _, ho, hC =>
                simp only [List.getElem?_cons_succ, List.getElem?_cons_zero, Option.some.injEq] at ho
                subst ho
                obtain ⟨u10, e10⟩ := hdep ⟨10, .data⟩ (by simp) rfl _ 77 rfl rfl
                rw [show vals 10 = .int .i64 A9.2.1 from e10] at u10
                unfold Oper.wp
                simp [execOp, go_sem, u10]
                exact cameB _ rfl (by decide) (Below.refl _ _) rfl (fun h => absurd h (by decide))
              | 13, _, ho, hC =>
                simp only [List.getElem?_cons_succ, List.getElem?_cons_zero, Option.some.injEq] at ho
                subst ho
                obtain ⟨u11, e11⟩ := hdep ⟨11, .data⟩ (by simp) rfl _ 78 rfl rfl
                unfold Oper.wp
                simp [execOp, go_sem, u11]
                exact cameB _ rfl (by decide) (Below.refl _ _) e11 (fun h => absurd h (by decide))
              | m + 14, hi, _, _ => exact absurd hi (by omega)
            · intro vals x hX hR _
              have q8 : SndQ ad W.heap.size w1 vb W.heap.size A9 (vals 8) x := hR 8 (by decide)
              have e12 : vals 12 = .int .i64 A9.2.1 := hR 12 (by decide)
              have e13 : ErrR ad w1.heap.size A9.2.2 (vals 13) x := hR 13 (by decide)
              obtain ⟨u8, v8, _, _, hg8, ha8⟩ := q8
              have hA8 := HA.out.1.step hX hg8 ha8
              have r10 := HA.out.2.2.ch hX HNB.out
              have hG8 := HA.out.2.1
              simp only [List.drop, List.take, putAll, List.setIfInBounds_toArray, List.set_cons_succ, List.set_cons_zero, e12]
              clear HA HSn hR hX hg8 ha8 HNB HNN HRw e12
              generalize vals 13 = ev at e13 ⊢
              cases hno : A9.2.2 with
              | some rr =>
                rw [hno] at e13
                obtain ⟨rr1, rr2, rr3⟩ := rr
                obtain ⟨eb, rfl, _, _, _⟩ := e13
                have hA5 := hA8
                have hG5 : SmG (k + 1) A9.1 qs ms := by rw [← HA9.out]; exact hG8.sndA0 (by omega) op.i op.j R9 (by rw [HA9.out, hno]; exact ⟨_, rfl⟩)
                clear hA8 hG8 r10 hno HA9
                generalize A9.1 = g5 at hA5 hG5
                generalize A9.2.1 = n5
                go_upto_region 35 with fail
                have hG6 := hG5.sums (by omega)
                have hsum : (wrap64 (g5.sent + g5.dbl) != wrap64 (wrap64 (g5.arr + g5.drp) + (g5.l.length : Int))) = false := by rw [hG6]; simp
                have HC := hid_of' (counts_is hA5.bg)
                have H5 := hid_of' (And.intro hA5 hG5)
                clear hG6 hA5 hG5
                go_wp2_with (first | (go_at_call 25; refine HC.out.mono ?_; rintro e w6 ⟨rfl, hb6⟩; clear HC; have HL := hid_of' (len_is (H5.out.1.bg.later hb6)); have HB6 := hid_of' hb6; clear hb6) | (go_at_call 13; refine HL.out.mono ?_; rintro e w7 ⟨rfl, h0⟩; obtain rfl := h0.symm))
                go_roundw
                case rel => exact ⟨k + 1, _, g5, _, _, by go_num, by omega, by omega, H5.out.1.later HB6.out, H5.out.2⟩
                case measure => simp [intOf]; omega
              | none =>
                rw [hno] at e13
                have hev : ev = .nilIface := e13
                subst hev
                obtain ⟨hq1, hq2⟩ : A9.1 = sndG g op.i op.j R9 ∧ A9.2.1 = wrap64 (g.last + 1) := by rw [← HA9.out] at hno ⊢; exact sndA_ok hno
                have hn5 : A9.2.1 = (qs.length : Int) + 1 := by rw [hq2, hG8.last]; have := hG8.le; exact wrap_sm (by omega) (by omega)
                have hG5 := hG8.send (by omega) op.i op.j R9
                rw [← hq1] at hG5
                obtain ⟨ss, hs1, hs2⟩ := hA8.sn
                rw [hn5]
                have H8 := hid_of' (And.intro hA8 (And.intro hG5 (And.intro hs1 (And.intro hs2 r10))))
                have hql := hG8.le
                have hmq := hG8.len
                have HMQ := hid_of' hmq
                have d1 : x.cell? ⟨wr.heap.size, 1, none⟩ = some (.int .i64 op.i) := r10.cellIs 1 rfl
                have d2 : x.cell? ⟨wr.heap.size, 2, none⟩ = some (.int .i64 op.j) := r10.cellIs 2 rfl
                clear hA8 hG8 hG5 hs1 hs2 hno hq1 hq2 hn5 HA9 r10 e13 hmq
                go_upto_region 19 with (first | (refine wpL_one (p := ⟨(qs.length : Int) + 1, op.i, op.j, .slice ra R9.length rc⟩) rfl _ rfl rfl rfl ?_) | (at_builtin; refine wpL_app (P := Tryd.prog) rfl _ _ 45 rfl 56 j0 _ 4 48 Tryd.underlying45 HJ.out.1 HJ.out.2.1 HJ.out.2.2.1 HJ.out.2.2.2 rfl rfl rfl (H8.out.2.2.1.later (below_one _ _)) (so_one (p := ⟨(qs.length : Int) + 1, op.i, op.j, .slice ra R9.length rc⟩) (row_new _ _ _).in) (pcells_one [⟨(qs.length : Int) + 1, op.i, op.j, .slice ra R9.length rc⟩] (fun p' hp => by rw [List.mem_singleton] at hp; subst hp; rfl)) (by unfold maxLen; omega) (by omega) ?_; intro sv9 w9 hr9 hgr9 hat9))
                obtain ⟨s9a, s9c, rfl, _, _⟩ := hr9.form
                have hA9 := (H8.out.1.later (below_one x (.cells (pcv ⟨(qs.length : Int) + 1, op.i, op.j, .slice ra R9.length rc⟩) 56))).sent H8.out.2.2.2.1 (p := ⟨(qs.length : Int) + 1, op.i, op.j, .slice ra R9.length rc⟩) (q := ⟨(qs.length : Int) + 1, op.i, op.j, R9⟩) ⟨rfl, rfl, rfl, HRW.out⟩ hr9 hgr9 hat9
                have H9 := hid_of' (And.intro hA9 H8.out.2.1)
                clear hr9 hgr9 hat9 hA9 H8 d1 d2
                go_upto_region 20 with (at_builtin; refine wpL_app (P := Tryd.prog) rfl _ _ 30 rfl 3 n0 _ 1 8 Tryd.underlying30 HNI.out.1 HNI.out.2.1 HNI.out.2.2.1 HNI.out.2.2.2 rfl rfl rfl (H9.out.1.my.later (below_one _ _)) (so_int _ 1) (ints_one [1]) (by have := HMQ.out; unfold maxLen; omega) (by have := HMQ.out; omega) ?_; intro mv9 w8 hr8 hgr8 hat8)
                obtain ⟨m9a, m9c, rfl, _, _⟩ := hr8.form
                have hA5 : SmAt W.heap.size W (.slice s9a (qs.length + 1) s9c) (.slice m9a (ms.length + 1) m9c) v8 A9.1 (qs ++ [⟨(qs.length : Int) + 1, op.i, op.j, R9⟩]) (ms ++ [1]) w8 := by
                  have h1 := H9.out.1.later (below_one w9 (.cells #[.int .i64 1] 3))
                  refine h1.mayR ?_ (grown_ch hgr8) hat8
                  rw [List.length_append, List.length_singleton, show ints (ms ++ [1]) = ints ms ++ ints [1] by simp [ints]]
                  exact hr8
                have hG5 := H9.out.2
                clear hr8 hgr8 hat8 H9
                generalize A9.1 = g5 at hA5 hG5
                have H5a := hid_of' (And.intro hA5 hG5)
                clear hA5 hG5
                go_upto_region 35 with fail
                obtain ⟨hA5, hG5⟩ := H5a.out
                clear H5a
                have hG6 := hG5.sums (by omega)
                have hsum : (wrap64 (g5.sent + g5.dbl) != wrap64 (wrap64 (g5.arr + g5.drp) + (g5.l.length : Int))) = false := by rw [hG6]; simp
                have HC := hid_of' (counts_is hA5.bg)
                have H5 := hid_of' (And.intro hA5 hG5)
                clear hG6 hA5 hG5
                go_wp2_with (first | (go_at_call 25; refine HC.out.mono ?_; rintro e w6 ⟨rfl, hb6⟩; clear HC; have HL := hid_of' (len_is (H5.out.1.bg.later hb6)); have HB6 := hid_of' hb6; clear hb6) | (go_at_call 13; refine HL.out.mono ?_; rintro e w7 ⟨rfl, h0⟩; obtain rfl := h0.symm))
                go_roundw
                case rel => exact ⟨k + 1, _, g5, _, _, by go_num, by omega, by omega, H5.out.1.later HB6.out, H5.out.2⟩
                case measure => simp [intOf]; omega
        | 1, _ => 
          rcases place_cases g op.i with ⟨ix, q, hxi, hq, hil⟩ | hi
          · rw [hxi] at d1
            obtain ⟨n, m, hn1, hn2, hn3, hn4, hn5, hn6⟩ := HA.out.2.1.at hq
            have hml := HA.out.2.1.len
            obtain ⟨gm, rfl⟩ := HA.out.1.my.some (by omega)
            obtain ⟨ss, hs1, hs2, hs3⟩ := HA.out.1.sn
            obtain ⟨gs, rfl⟩ := hs1.some (by omega)
            have HK := hid_of' (deliver_ok HA.out.1.bg hq)
            have HQ := hid_of' (And.intro hq (And.intro hn1 (And.intro hn2 (And.intro hn3 hml))))
            have hql := HA.out.2.1.le
            have hnm : (n : Int) < (ms.length : Int) := by omega
            have hnq : (n : Int) < (qs.length : Int) := by omega
            clear hq hn1 hn2 hn3 hxi hml hs1 hs2 hs3
            go_upto_region 24 with (first | (go_at_call 17; refine HW5.out.mono ?_; rintro e w2 ⟨rfl, h0⟩; obtain rfl := h0.symm) | (go_at_call 19; refine HK.out.mono ?_; rintro e w2 ⟨p, v2, rfl, hp2, hg2, ha2, hc2⟩; clear HK; have HP := hid_of' (And.intro hp2 (And.intro hg2 (And.intro ha2 hc2))); clear hp2 hg2 ha2 hc2) | (refine wpL_stNewP (p := p) rfl _ _ rfl rfl rfl rfl rfl rfl HP.out.1.b.sl.one ?_; go_simp))
            have rp := row_new w2 (pcv p) 56
            have hb3 := below_one w2 (.cells (pcv p) 56)
            have hA3 := (HA.out.1.step HP.out.2.2.2 HP.out.2.1 HP.out.2.2.1).later hb3
            have hpr := HP.out.1.r.later hb3
            have hps : p.s = (n : Int) + 1 := HP.out.1.s.trans HQ.out.2.1
            have hG3 := HA.out.2.1
            clear d0 d1 d2 d3 HP HA
            generalize w2.alloc (.cells (pcv p) 56) = w3 at rp hb3 hA3 hpr ⊢
            have e0 : w3.cell? ⟨w2.heap.size, 0, none⟩ = some (.int .i64 p.s) := rp.cellIs 0 rfl
            have p1 : wrap64 (p.s - 1) = (n : Int) := by rw [hps]; exact (wrap_sm (by omega) (by omega)).trans (by omega)
            have H3 := hid_of' (And.intro hA3 (And.intro hG3 (And.intro hpr rp)))
            clear hA3 hG3 hpr rp hps
            go_upto_region 26 with fail
            rw [p1]
            clear e0 p1
            obtain ⟨ss, hs1, hs2, hs3⟩ := H3.out.1.sn
            obtain ⟨ps, hps⟩ : ∃ ps, ss[n]? = some ps := ⟨_, List.getElem?_eq_getElem (by omega)⟩
            have hpsr := (hs3 n ps q hps HQ.out.2.2.1).low H3.out.1.low
            have HL1 : ∀ x, (∃ s : Wld w3, x = wOf s) → CsIn w2.heap.size 0 (pcv p) x := H3.out.2.2.2.in.cls
            have hin2 : CsIn gs (n * 4) (pcv ps) w3 := ⟨hs1.lt gs rfl, fun j u hu => by
              have := hs1.cells _ _ (pcells_at ss n ps hps j u hu)
              rwa [Nat.zero_add] at this⟩
            have HL2 : ∀ x, (∃ s : Wld w3, x = wOf s) → CsIn gs (n * 4) (pcv ps) x := hin2.cls
            have hm3 := (H3.out.1.my.atI HQ.out.2.2.2.1).1
            have e1 : ∀ s : Wld w3, (wOf s).cell? ⟨gm, n, none⟩ = some (.int .i64 m) := fun s => by rw [(wOf_below s).cell (World.block_lt_of_cell? _ _ hm3)]; exact hm3
            have HPQ := hid_of' (And.intro H3.out.2.2.1 hpsr)
            have hnl : n < ms.length := by omega
            have hnl2 : n < qs.length := by omega
            have hnl3 : ¬ qs.length ≤ n := by omega
            have hmm : ¬ m < 1 := by omega
            have hz0 : decide ((n : Int) < 0) = false := decide_eq_false (by omega)
            have hz1 : decide ((qs.length : Int) ≤ (n : Int)) = false := decide_eq_false (by omega)
            have hz2 : decide (m < 1) = false := decide_eq_false (by omega)
            have hB := Below.refl w3.heap.size w3
            clear hs1 hs2 hs3 hps hpsr hin2 hm3
            refine wp_region_cls (by kernel_rfl) (by kernel_rfl) ?_
            repeat (first | go_big_quiet_skip | (go_big_quiet_want; first | (refine quiet_loadP _ rfl rfl HL1 ?_; simp only [Act.put, List.setIfInBounds_toArray, List.set_cons_succ, List.set_cons_zero]; go_big_quiet_on) | (refine quiet_loadP _ rfl rfl HL2 ?_; simp only [Act.put, List.setIfInBounds_toArray, List.set_cons_succ, List.set_cons_zero]; go_big_quiet_on) | (go_big_quiet_op; first | go_big_quiet_on | go_big_quiet_call ((go_at_call 20; exact cls_of (parcel_eq (HPQ.out.1.later (wOf_below _)) (HPQ.out.2.later (wOf_below _))))))))
            refine wpQuiet_nil ?_
            rintro w1 ⟨s1, e1⟩
            have hb1 := wOf_below s1
            rw [← e1] at hb1
            clear e1 s1
            replace hB := bgo hB hb1
            clear hb1
            have hA4 := H3.out.1.later hB
            have hm4 := hA4.my.atI HQ.out.2.2.2.1
            have m1 := hm4.1
            have m2 := hm4.2
            have hA5 : SmAt W.heap.size W (.slice (some ⟨gs, 0, none⟩) qs.length sc) (.slice (some ⟨gm, 0, none⟩) ms.length mc) v2 { g with arr := wrap64 (g.arr + 1), l := g.l.eraseIdx ix } qs (ms.set n (m - 1)) (w1.setCell ⟨gm, n, none⟩ (.int .i64 (m - 1))) := by
              refine hA4.mayR ?_ (Ch.set (S := fun k => Value.ownBlock (.slice (some ⟨gm, 0, none⟩) ms.length mc) = some k) (Ch.refl _ _) (p := ⟨gm, n, none⟩) (.inl rfl) _) (At'.refl _ _)
              rw [List.length_set]
              exact hA4.my.setI hnl (m - 1)
            have hG5 := H3.out.2.1.deliver (by omega) HQ.out.1 HQ.out.2.1 HQ.out.2.2.2.1
            have H4 := hid_of' (And.intro hA5 hG5)
            clear hA4 hm4 hA5 hG5 H3 HL1 HL2 e1 HPQ hB
            go_upto_region 35 with fail
            clear m1 m2
            obtain ⟨hA5, hG5⟩ := H4.out
            clear H4
            generalize w1.setCell ⟨gm, n, none⟩ (.int .i64 (m - 1)) = w5 at hA5 ⊢
            generalize ({ g with arr := wrap64 (g.arr + 1), l := g.l.eraseIdx ix } : Bg) = g5 at hA5 hG5
            have hG6 := hG5.sums (by omega)
            have hsum : (wrap64 (g5.sent + g5.dbl) != wrap64 (wrap64 (g5.arr + g5.drp) + (g5.l.length : Int))) = false := by rw [hG6]; simp
            have HC := hid_of' (counts_is hA5.bg)
            have H5 := hid_of' (And.intro hA5 hG5)
            clear hG6 hA5 hG5
            go_wp2_with (first | (go_at_call 25; refine HC.out.mono ?_; rintro e w6 ⟨rfl, hb6⟩; clear HC; have HL := hid_of' (len_is (H5.out.1.bg.later hb6)); have HB6 := hid_of' hb6; clear hb6) | (go_at_call 13; refine HL.out.mono ?_; rintro e w7 ⟨rfl, h0⟩; obtain rfl := h0.symm))
            go_roundw
            case rel => exact ⟨k + 1, _, g5, _, _, by go_num, by omega, by omega, H5.out.1.later HB6.out, H5.out.2⟩
            case measure => simp [intOf]; omega
          · have HK := hid_of' (deliver_no (HO.out.2.below HA.out.1.low) HA.out.1.bg hi)
            clear hi
            go_upto_region 24 with (first | (go_at_call 17; refine HW5.out.mono ?_; rintro e w2 ⟨rfl, h0⟩; obtain rfl := h0.symm) | (go_at_call 19; refine HK.out.mono ?_; rintro e w2 ⟨u2, rfl, he2, hb2⟩; clear HK; obtain ⟨eb, rfl, _, _, _⟩ := he2) | (refine wpL_stNewP (p := pc0) rfl _ _ rfl rfl rfl rfl rfl rfl rfl ?_; go_simp))
            have hb3 := bgo hb2 (below_one w2 (.cells (pcv pc0) 56))
            have hA5 := HA.out.1.later hb3
            have hG5 := HA.out.2.1.mono
            clear HA hb2 hb3 d0 d1 d2 d3
            generalize w2.alloc (.cells (pcv pc0) 56) = w5 at hA5 ⊢
            have H5 := hid_of' (And.intro hA5 hG5)
            clear hA5 hG5
            go_wp2
            go_roundw
            case rel => exact ⟨k + 1, _, g, _, _, by go_num, by omega, by omega, H5.out.1, H5.out.2⟩
            case measure => simp [intOf]; omega
        | 2, _ =>
          have HD := hid_of' (drop_any (HO.out.2.below HA.out.1.low) HA.out.1.bg op.i)
          go_upto_region 35 with (first | (go_at_call 17; refine HW5.out.mono ?_; rintro e w2 ⟨rfl, h0⟩; obtain rfl := h0.symm) | (go_at_call 21; refine HD.out.mono ?_; rintro e w5 ⟨u2, v2, rfl, _, hg2, ha2, hc2⟩; clear HD))
          have hA5 := HA.out.1.step hc2 hg2 ha2
          have hG5 := HA.out.2.1.drpG (by omega) op.i
          clear HA hg2 ha2 hc2
          generalize drpG g op.i = g5 at hA5 hG5
          have hG6 := hG5.sums (by omega)
          have hsum : (wrap64 (g5.sent + g5.dbl) != wrap64 (wrap64 (g5.arr + g5.drp) + (g5.l.length : Int))) = false := by rw [hG6]; simp
          have HC := hid_of' (counts_is hA5.bg)
          have H5 := hid_of' (And.intro hA5 hG5)
          clear hG6 hA5 hG5
          go_wp2_with (first | (go_at_call 25; refine HC.out.mono ?_; rintro e w6 ⟨rfl, hb6⟩; clear HC; have HL := hid_of' (len_is (H5.out.1.bg.later hb6)); have HB6 := hid_of' hb6; clear hb6) | (go_at_call 13; refine HL.out.mono ?_; rintro e w7 ⟨rfl, h0⟩; obtain rfl := h0.symm))
          go_roundw
          case rel => exact ⟨k + 1, _, g5, _, _, by go_num, by omega, by omega, H5.out.1.later HB6.out, H5.out.2⟩
          case measure => simp [intOf]; omega
        | 3, _ => 
          by_cases hok : (dblA g op.i).2 = none
          · obtain ⟨ix, q, hxi, hq, hroom⟩ : ∃ (ix : Nat) (q : Pl), op.i = (ix : Int) ∧ g.l[ix]? = some q ∧ (g.l.length : Int) < g.most := by
              unfold dblA at hok
              rcases place_cases g op.i with ⟨n, q, hxi, hq, hn⟩ | hi
              · rw [if_pos (by omega)] at hok
                by_cases hr : g.most ≤ (g.l.length : Int)
                · rw [if_pos hr] at hok; cases hok
                · exact ⟨n, q, hxi, hq, by omega⟩
              · rw [if_neg (by omega)] at hok; cases hok
            rw [hxi] at d1
            obtain ⟨n, m, hn1, hn2, hn3, hn4, hn5, hn6⟩ := HA.out.2.1.at hq
            have hml := HA.out.2.1.len
            obtain ⟨gm, rfl⟩ := HA.out.1.my.some (by omega)
            have HK := hid_of' (look_ok HA.out.1.bg hq)
            have HQ := hid_of' (And.intro hq (And.intro hn1 (And.intro hn2 (And.intro hn3 (And.intro hroom (And.intro hml hxi))))))
            have hql := HA.out.2.1.le
            have hnm : (n : Int) < (ms.length : Int) := by omega
            clear hq hn1 hn2 hn3 hok hroom hxi hml
            go_upto_region 33 with (first | (go_at_call 17; refine HW5.out.mono ?_; rintro e w2 ⟨rfl, h0⟩; obtain rfl := h0.symm) | (go_at_call 22; refine HK.out.mono ?_; rintro e w2 ⟨p, rfl, hp2, hb2⟩; clear HK; have HP := hid_of' (And.intro hp2 hb2); clear hp2 hb2) | (refine wpL_stNewP (p := p) rfl _ _ rfl rfl rfl rfl rfl rfl HP.out.1.b.sl.one ?_; go_simp))
            have rp := row_new w2 (pcv p) 56
            have hb3 := bgo HP.out.2 (below_one w2 (.cells (pcv p) 56))
            have r10 := HA.out.2.2.later hb3
            have hA3 := HA.out.1.later hb3
            have hps : p.s = (n : Int) + 1 := HP.out.1.s.trans HQ.out.2.1
            have hs2 := HP.out.2.size
            have hsv := HA.out.1.bg.row.lt
            have hBl := HA.out.1.bg.lies.lt
            clear d0 d1 d2 d3 HP
            generalize w2.alloc (.cells (pcv p) 56) = w3 at rp hb3 r10 hA3 ⊢
            have d1 : w3.cell? ⟨wr.heap.size, 1, none⟩ = some (.int .i64 (ix : Int)) := r10.cellIs 1 (by rw [← HQ.out.2.2.2.2.2.2]; rfl)
            have HD := hid_of' (double_ok hA3.bg HQ.out.1 HQ.out.2.2.2.2.1)
            have p1 : 1 ≤ p.s := by omega
            have p2 : p.s ≤ (ms.length : Int) := by omega
            have p3 : wrap64 (p.s - 1) = (n : Int) := by rw [hps]; exact (wrap_sm (by omega) (by omega)).trans (by omega)
            have H3 := hid_of' (And.intro hA3 (And.intro HA.out.2.1 rp))
            clear HA hps hA3 rp r10
            go_upto_region 34 with (go_at_call 23; refine HD.out.mono ?_; rintro e w4 ⟨v4, rfl, hg4, ha4, hc4⟩; clear HD; have e0 : w4.cell? ⟨w2.heap.size, 0, none⟩ = some (.int .i64 p.s) := (H3.out.2.2.ch hc4 (fun e => Or.elim e (fun e => by omega) (fun e => by have := hsv _ e; omega))).cellIs 0 rfl; have HD4 := hid_of' (And.intro hg4 (And.intro ha4 hc4)); clear hg4 ha4 hc4)
            have hA4 := H3.out.1.step HD4.out.2.2 HD4.out.1 HD4.out.2.1
            have hm4 := hA4.my.atI HQ.out.2.2.2.1
            have m1 := hm4.1
            have m2 := hm4.2
            have hnl : n < ms.length := by omega
            have hA5 : SmAt W.heap.size W (.slice sa qs.length sc) (.slice (some ⟨gm, 0, none⟩) ms.length mc) v4 { g with dbl := wrap64 (g.dbl + 1), l := g.l ++ [q] } qs (ms.set n (m + 1)) (w4.setCell ⟨gm, n, none⟩ (.int .i64 (m + 1))) := by
              refine hA4.mayR ?_ (Ch.set (S := fun k => Value.ownBlock (.slice (some ⟨gm, 0, none⟩) ms.length mc) = some k) (Ch.refl _ _) (p := ⟨gm, n, none⟩) (.inl rfl) _) (At'.refl _ _)
              rw [List.length_set]
              exact hA4.my.setI hnl (m + 1)
            have hG5 := H3.out.2.1.double (by omega) HQ.out.1 HQ.out.2.1 HQ.out.2.2.2.1
            have H4 := hid_of' (And.intro hA5 hG5)
            have hml5 : (ms.set n (m + 1)).length = ms.length := List.length_set
            have HM5 := hid_of' hml5
            clear hA4 hm4 hA5 hG5 H3 hml5
            go_upto_region 35 with fail
            clear m1 m2 e0 d1
            obtain ⟨hA5, hG5⟩ := H4.out
            clear H4
            generalize w4.setCell ⟨gm, n, none⟩ (.int .i64 (m + 1)) = w5 at hA5 ⊢
            generalize ({ g with dbl := wrap64 (g.dbl + 1), l := g.l ++ [q] } : Bg) = g5 at hA5 hG5
            have hG6 := hG5.sums (by omega)
            have hsum : (wrap64 (g5.sent + g5.dbl) != wrap64 (wrap64 (g5.arr + g5.drp) + (g5.l.length : Int))) = false := by rw [hG6]; simp
            have HC := hid_of' (counts_is hA5.bg)
            have H5 := hid_of' (And.intro hA5 hG5)
            clear hG6 hA5 hG5
            go_wp2_with (first | (go_at_call 25; refine HC.out.mono ?_; rintro e w6 ⟨rfl, hb6⟩; clear HC; have HL := hid_of' (len_is (H5.out.1.bg.later hb6)); have HB6 := hid_of' hb6; clear hb6) | (go_at_call 13; refine HL.out.mono ?_; rintro e w7 ⟨rfl, h0⟩; obtain rfl := h0.symm))
            go_roundw
            case rel => exact ⟨k + 1, _, g5, _, _, by go_num, by omega, by omega, H5.out.1.later HB6.out, H5.out.2⟩
            case measure => simp [intOf]; omega
          · obtain ⟨r, hr, hg9⟩ : ∃ r, (dblA g op.i).2 = some r ∧ (dblA g op.i).1 = g := by
              unfold dblA at hok ⊢
              rcases place_cases g op.i with ⟨n, q, hxi, hq, hn⟩ | hi
              · rw [if_pos (by omega)] at hok ⊢
                by_cases hr : g.most ≤ (g.l.length : Int)
                · rw [if_pos hr]; exact ⟨_, rfl, rfl⟩
                · rw [if_neg hr] at hok; exact absurd rfl hok
              · rw [if_neg (by omega)]; exact ⟨_, rfl, rfl⟩
            have HK := hid_of' (look_any (HO.out.2.below HA.out.1.low) HA.out.1.bg op.i)
            have HR := hid_of' (And.intro hr hg9)
            clear hok hr hg9
            go_upto_region 33 with (first | (go_at_call 17; refine HW5.out.mono ?_; rintro e w2 ⟨rfl, h0⟩; obtain rfl := h0.symm) | (go_at_call 22; refine HK.out.mono ?_; rintro e w2 ⟨p, u2, rfl, hp2, _, hb2⟩; clear HK; have HP := hid_of' (And.intro hp2 hb2); clear hp2 hb2) | (refine wpL_stNewP (p := p) rfl _ _ rfl rfl rfl rfl rfl rfl HP.out.1.b.sl.one ?_; go_simp))
            have hb3 := bgo HP.out.2 (below_one w2 (.cells (pcv p) 56))
            have r10 := HA.out.2.2.later hb3
            have hA3 := HA.out.1.later hb3
            clear d0 d1 d2 d3 HP
            generalize w2.alloc (.cells (pcv p) 56) = w3 at hb3 r10 hA3 ⊢
            have d1 : w3.cell? ⟨wr.heap.size, 1, none⟩ = some (.int .i64 op.i) := r10.cellIs 1 rfl
            have hD := double_any (HO.out.2.below hA3.low) hA3.bg op.i
            rw [HR.out.1, HR.out.2] at hD
            have HD := hid_of' hD
            have H3 := hid_of' (And.intro hA3 HA.out.2.1)
            clear HA hA3 r10 hD
            go_upto_region 35 with (go_at_call 23; refine HD.out.mono ?_; rintro e w5 ⟨u4, v4, rfl, he4, hg4, ha4, hc4⟩; clear HD; obtain ⟨rc1, ra1, rk1⟩ := r; obtain ⟨eb, rfl, _, _, _⟩ := he4)
            have hA5 := H3.out.1.step hc4 hg4 ha4
            have hG5 := H3.out.2.mono
            clear H3 hg4 ha4 hc4 d1
            obtain ⟨g5, hg5⟩ : ∃ g5, g = g5 := ⟨_, rfl⟩
            subst hg5
            have hG6 := hG5.sums (by omega)
            have hsum : (wrap64 (g.sent + g.dbl) != wrap64 (wrap64 (g.arr + g.drp) + (g.l.length : Int))) = false := by rw [hG6]; simp
            have HC := hid_of' (counts_is hA5.bg)
            have H5 := hid_of' (And.intro hA5 hG5)
            clear hG6 hA5 hG5
            go_wp2_with (first | (go_at_call 25; refine HC.out.mono ?_; rintro e w6 ⟨rfl, hb6⟩; clear HC; have HL := hid_of' (len_is (H5.out.1.bg.later hb6)); have HB6 := hid_of' hb6; clear hb6) | (go_at_call 13; refine HL.out.mono ?_; rintro e w7 ⟨rfl, h0⟩; obtain rfl := h0.symm))
            go_roundw
            case rel => exact ⟨k + 1, _, g, _, _, by go_num, by omega, by omega, H5.out.1.later HB6.out, H5.out.2⟩
            case measure => simp [intOf]; omega
        | 4, _ =>
          have HD := hid_of' (swap_any (HO.out.2.below HA.out.1.low) HA.out.1.bg op.i op.j)
          go_upto_region 35 with (first | (go_at_call 17; refine HW5.out.mono ?_; rintro e w2 ⟨rfl, h0⟩; obtain rfl := h0.symm) | (go_at_call 24; refine HD.out.mono ?_; rintro e w5 ⟨u2, rfl, _, hg2, hc2⟩; clear HD))
          have hA5 := HA.out.1.step hc2 hg2 (At'.refl _ _)
          have hG5 := HA.out.2.1.swpA op.i op.j
          clear HA hg2 hc2
          generalize (swpA g op.i op.j).1 = g5 at hA5 hG5
          have hG6 := hG5.sums (by omega)
          have hsum : (wrap64 (g5.sent + g5.dbl) != wrap64 (wrap64 (g5.arr + g5.drp) + (g5.l.length : Int))) = false := by rw [hG6]; simp
          have HC := hid_of' (counts_is hA5.bg)
          have H5 := hid_of' (And.intro hA5 hG5)
          clear hG6 hA5 hG5
          go_wp2_with (first | (go_at_call 25; refine HC.out.mono ?_; rintro e w6 ⟨rfl, hb6⟩; clear HC; have HL := hid_of' (len_is (H5.out.1.bg.later hb6)); have HB6 := hid_of' hb6; clear hb6) | (go_at_call 13; refine HL.out.mono ?_; rintro e w7 ⟨rfl, h0⟩; obtain rfl := h0.symm))
          go_roundw
          case rel => exact ⟨k + 1, _, g5, _, _, by go_num, by omega, by omega, H5.out.1.later HB6.out, H5.out.2⟩
          case measure => simp [intOf]; omega
      · have hki : (k : Int) < (os.length : Int) := by omega
        have hkj : ¬ (k : Int) < 250 := by omega
        go_wp2_with (go_at_call 11; refine (wakes10_ok _).mono ?_; rintro e w5 ⟨rfl, hb5⟩)
        go_ret
        exact ⟨rfl, HA.out.1.low.trans (hb5.mono HA.out.1.low.size)⟩
    · have hki : ¬ (k : Int) < (os.length : Int) := by omega
      go_wp2_with (go_at_call 11; refine (wakes10_ok _).mono ?_; rintro e w5 ⟨rfl, hb5⟩)
      go_ret
      exact ⟨rfl, HA.out.1.low.trans (hb5.mono HA.out.1.low.size)⟩
end Go.Proofs.YtbjbihgfkcnmbaaDoor
