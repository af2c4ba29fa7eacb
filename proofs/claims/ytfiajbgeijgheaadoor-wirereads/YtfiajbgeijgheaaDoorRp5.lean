
/-
  barrowlaw02.WireReads.
-/
import Derived.Test.YtfiajbgeijgheaaDoorRp4
namespace Go.Proofs.YtfiajbgeijgheaaDoor
open Go.RowKit
set_option maxRecDepth 100000

theorem lent_sl {w : World} {G c : Nat} {bs : List UInt8} (h : Rw 5 1 (.slice (some ⟨G, 0, none⟩) (bs.length + 4) c) (bs.length + 4) (Lib.byteCells bs ++ mk4) w) : SlB w (.slice (some ⟨G, 0, none⟩) bs.length c) bs := by
  refine .inr ⟨G, 0, c, rfl, h.lt G rfl, fun i b hb => ?_⟩
  have hi := (List.getElem?_eq_some_iff.1 hb).1
  have hl : (Lib.byteCells bs).length = bs.length := by simp [Lib.byteCells]
  have hx : (Lib.byteCells bs ++ mk4)[i]? = some (.int .u8 b.toNat) := by rw [List.getElem?_append_left (by omega)]; simp [Lib.byteCells, hb]
  rw [Nat.zero_add]
  exact (rw_at1 h hx).1
theorem rep_getD (n j : Nat) : (Array.replicate n false).getD j false = false := by
  simp only [Array.getD_eq_getD_getElem?, Array.getElem?_replicate]
  split <;> rfl
theorem kept_ch {G : Nat} {w w' : World} (h : Ch (fun k => k = G) w w') : Kept [G] w w' := ⟨h.os, h.tape, h.output, h.size, fun k hk hn => h.block k hk (by simpa using hn)⟩
theorem gv_two {f : Nat → Value} (h8 : f 8 = .bool false) (h17 : f 17 = .bool false) : ∀ (j : Nat) (v : Bool), (if j = 8 then some false else if j = 17 then some false else none) = some v → f j = .bool v := by
  intro j v h
  split at h
  · rename_i e; subst e; cases h; exact h8
  · split at h
    · rename_i e; subst e; cases h; exact h17
    · cases h

set_option maxHeartbeats 4000000 in
theorem reads_ok {ad : Nat → Addr} {W : World} (L : Laid ad W) (v0 v1 : Value) (bs0 : List UInt8) (cl : List Cl) (h0 : SlB W v0 bs0) (hc0 : ∀ a n c, v0 = .slice a n c → n ≤ c) (h1 : SlC W v1 cl) :
    Calls Tryd.prog 4 #[v0, v1] W fun e w' => e = .returned (.bool true) ∧ Below W.heap.size W w' := by
  have HL := hid_of' (And.intro L (And.intro h0 hc0))
  obtain ⟨a1, c1, rfl⟩ : ∃ a c, v1 = .slice a cl.length c := by
    rcases h1 with ⟨rfl, a, c, rfl⟩ | ⟨g, o, c, rfl, _⟩
    · exact ⟨a, c, rfl⟩
    · exact ⟨_, c, rfl⟩
  have HC := hid_of' h1
  have hlen : (bs0.take 4000).length ≤ 4000 := by simp; omega
  clear L h0 hc0 h1
  go_enter Tryd.func4, Tryd.ntmps4
  go_upto_region 2 with (go_at_call 20; refine (clip_cap HL.out.2.1 HL.out.2.2).mono ?_; rintro e w0 ⟨u, rfl, hu, hcap, h0⟩; obtain rfl := h0.symm)
  generalize bs0.take 4000 = bs at *
  obtain ⟨ua, uc, rfl⟩ := hu.form
  go_upto_region 4 with (first
    | (go_at_call 21; refine (lend_is hu hlen).mono ?_; rintro e w1 ⟨G, c, rfl, r1, hG, b1⟩)
    | (go_at_call 22; refine (newReader_any (lent_sl r1) (by omega) (Nat.le_trans (lwOf HL.out.1).size b1.size)).mono ?_; rintro e w2 ⟨rb, rfl, hr2, hlt2, hb2⟩))
  have HI := hid_of' (intact_is (r1.later hb2) ((hu.laterX b1).laterX hb2) hlen)
  have hGl := r1.lt G rfl
  clear r1
  go_upto_region 7 with (go_at_call 23; refine HI.out.mono ?_; rintro e w3 ⟨rfl, ch3⟩)
  have hr3 := hr2.kept (kept_ch ch3) (by simp; omega) (by simp; omega)
  have hB3 : Below W.heap.size W w3 := (bgo b1 hb2).trans ((kept_ch ch3).below (by simpa using hG) (by have := (bgo b1 hb2).size; omega))
  have hu3 := ((hu.laterX b1).laterX hb2).keptX (kept_ch ch3) (fun g o n c e h0 => by
    rcases hu with ⟨rfl, _⟩ | ⟨g', o', c', e', hg', _⟩
    · cases e; simp at h0
    · rw [e'] at e; cases e; simp; omega)
  have huw : ∀ g o n c, Value.slice ua bs.length uc = .slice (some ⟨g, o, none⟩) n c → 0 < n → g < W.heap.size := fun g o n c e h0 => by
    rcases hu with ⟨rfl, _⟩ | ⟨g', o', c', e', hg', _⟩
    · cases e; simp at h0
    · rw [e'] at e; cases e; exact hg'
  have hs3 := hB3.size
  have hs1 := b1.size
  have hrb3 : rb < w3.heap.size := lt_of_heap hr3.lies
  have hbx := below_one w3 (.cells #[.slice ua bs.length uc, .int .i64 0, .int .i64 0, .slice none 0 0, .slice none 0 0] 56)
  have P0 : PairS ad rb w1.heap.size w3.heap.size (.slice ua bs.length uc) bs 0 none (w3.alloc (.cells #[.slice ua bs.length uc, .int .i64 0, .int .i64 0, .slice none 0 0, .slice none 0 0] 56)) :=
    ⟨.nilIface, .int .i64 0, .slice none 0 0, .slice none 0 0, hr3.kept (S := []) (.of hbx) (by simp) (by simp), ⟨⟨RowAt.new w3 _ _, hu3.laterX hbx, Nat.zero_le _, by omega⟩, ⟨rfl, rfl, rfl⟩, fun g o n c e h0 => by have := huw g o n c e h0; omega⟩, rfl, fun g o n c e h0 => by have := huw g o n c e h0; omega⟩
  have hB4 := bgo hB3 hbx
  have hrW : W.heap.size ≤ rb := by omega
  obtain ⟨xb, hxb⟩ : ∃ xb, xb = w3.heap.size := ⟨_, rfl⟩
  rw [← hxb] at P0 hrb3 hs3 ⊢
  generalize w3.alloc (.cells #[.slice ua bs.length uc, .int .i64 0, .int .i64 0, .slice none 0 0, .slice none 0 0] 56) = w4 at *
  clear hr3 hu3 hbx hr2 hb2 ch3 hB3 hxb HI hu huw
  go_wp2_with fail
  go_loopw [8] (fun iv wr => ∃ (i pl : Nat) (st : StO), iv = .int .i64 (i : Int) ∧ i ≤ cl.length ∧ PairS ad rb w1.heap.size xb (.slice ua bs.length uc) bs pl st wr ∧ Below W.heap.size W wr) (fun iv _ => cl.length - (intOf iv).toNat)
  case atStart => exact ⟨0, 0, none, rfl, Nat.zero_le _, P0, hB4⟩
  case round =>
    clear P0 hB4
    obtain ⟨i, pl, st, rfl, hi, hP, hB⟩ := hrel
    have HJ := hid_of' (And.intro hB hP)
    clear hP hB
    by_cases hlt : i < cl.length
    · have hii : (i : Int) < (cl.length : Int) := by omega
      by_cases h200 : i < 200
      · have h200' : (i : Int) < 200 := by omega
        have hx : cl[i]? = some cl[i] := List.getElem?_eq_getElem hlt
        generalize cl[i] = x at hx
        obtain ⟨gc, oc, hga, hgl, hcc⟩ : ∃ gc oc, a1 = some ⟨gc, oc, none⟩ ∧ gc < W.heap.size ∧ ((-9223372036854775808 ≤ x.least ∧ x.least ≤ 9223372036854775807) ∧ W.cell? ⟨gc, oc + i * 3, none⟩ = some (.int .i64 x.kind) ∧ W.cell? ⟨gc, oc + i * 3 + 1, none⟩ = some (.int .i64 x.least) ∧ W.cell? ⟨gc, oc + i * 3 + 2, none⟩ = some (.int .i64 x.most)) := by
          rcases HC.out with ⟨h0, _⟩ | ⟨g, o, c, he, hg, hc⟩
          · rw [h0] at hlt; simp at hlt
          · simp only [Value.slice.injEq, true_and] at he
            exact ⟨g, o, he.1, hg, hc i x hx⟩
        subst hga
        obtain ⟨kind, least, most⟩ := x
        obtain ⟨q, s, hqs⟩ : ∃ q s, callR kind least most bs pl st = (q, s) := ⟨_, _, rfl⟩
        have HX := hid_of' (show True ∧ ∀ X, Below W.heap.size W X → CsIn gc (oc + i * 3) #[.int .i64 kind, .int .i64 least, .int .i64 most] X from ⟨trivial, fun X hb => ⟨Nat.lt_of_lt_of_le hgl hb.size, fun j v hv => by
          match j with
          | 0 => simp at hv; subst hv; show X.cell? ⟨gc, oc + i * 3, none⟩ = _; rw [hb.cell (p := ⟨gc, oc + i * 3, none⟩) hgl]; exact hcc.2.1
          | 1 => simp at hv; subst hv; rw [hb.cell (p := ⟨gc, oc + i * 3 + 1, none⟩) hgl]; exact hcc.2.2.1
          | 2 => simp at hv; subst hv; rw [hb.cell (p := ⟨gc, oc + i * 3 + 2, none⟩) hgl]; exact hcc.2.2.2
          | j + 3 => simp at hv⟩⟩)
        have HCall := hid_of' (show ∀ X, Below W.heap.size W X → PairS ad rb w1.heap.size xb (.slice ua bs.length uc) bs pl st X → Calls Tryd.prog 24 #[.pointer (some ⟨rb, 0, none⟩), .pointer (some ⟨xb, 0, none⟩), .agg #[.int .i64 kind, .int .i64 least, .int .i64 most]] X fun e w' => e = .returned (.bool true) ∧ Below W.heap.size W w' ∧ PairS ad rb w1.heap.size xb (.slice ua bs.length uc) bs q s w' from fun X hb ⟨_, _, _, _, hp⟩ => by
          have := call_any HL.out.1 hb hrW hs3 hp kind least most (fun a m c e => by cases e; exact hcap _ _ _ rfl) hcc.1.1 hcc.1.2
          rw [hqs] at this
          exact this)
        clear hx hcc
        go_upto_region 10 with fail
        refine wp_region_invg' (by kernel_rfl) (fun z => match z with
          | 0 => .pointer (some ⟨rb, 0, none⟩)
          | 1 => .pointer (some ⟨xb, 0, none⟩)
          | 2 => .slice (some ⟨gc, oc, none⟩) cl.length c1
          | 3 => .int .i64 (i : Int)
          | 4 => .pointer (some ⟨gc, oc + i * 3, none⟩)
          | 5 => .agg #[.int .i64 kind, .int .i64 least, .int .i64 most]
          | 6 => .bool true
          | 7 => .bool false
          | 8 => .bool false
          | 9 => .pointer (some ⟨rb, 0, none⟩)
          | 10 => .int .i64 (q : Int)
          | 11 => .pointer (some ⟨xb, 0, none⟩)
          | 12 => .pointer (some ⟨xb, 0, none⟩)
          | 13 => .pointer (some ⟨xb, 1, none⟩)
          | 14 => .int .i64 (q : Int)
          | 15 => .bool false
          | 16 => .bool false
          | 17 => .bool false
          | 18 => .pointer (some ⟨rb, 0, none⟩)
          | 19 => .int .i64 ((bs.length : Int) - (q : Int))
          | 20 => .pointer (some ⟨xb, 0, none⟩)
          | 21 => .int .i64 ((bs.length : Int) - (q : Int))
          | 22 => .bool false
          | _ => .bool false) (fun j => if j = 8 then some false else if j = 17 then some false else none) (by kernel_rfl) (gv_two rfl rfl) (RJ (PairS ad rb w1.heap.size xb (.slice ua bs.length uc) bs pl st) (PairS ad rb w1.heap.size xb (.slice ua bs.length uc) bs q s) W) ⟨HJ.out.1.drew, fun _ => HJ.out.2.later (below_drewN _ 1), fun h => absurd ((rep_getD _ _).symm.trans h) (by decide), fun j _ h => absurd ((rep_getD _ _).symm.trans h) (by decide)⟩ ?_ ?_
        · intro ii o ho listed y X hT hsz0 hun haft hdf hb hbo
          match ii, ho with
          | 0, ho =>
            simp only [List.getElem?_toArray, List.getElem?_cons_zero, Option.some.injEq] at ho
            subst ho
            have t6 : y.tmps[6]? = some (.pointer (some ⟨rb, 0, none⟩)) := by rw [hbo 6 (by kernel_rfl)]; rfl
            unfold Oper.wp
            simp [go_sem, t6]
            exact hT.same 0 (by decide) (fun k => absurd k (by decide))
          | 1, ho =>
            simp only [List.getElem?_toArray, List.getElem?_cons_succ, List.getElem?_cons_zero, Option.some.injEq] at ho
            subst ho
            have t7 : y.tmps[7]? = some (.pointer (some ⟨xb, 0, none⟩)) := by rw [hbo 7 (by kernel_rfl)]; rfl
            unfold Oper.wp
            simp [go_sem, t7]
            exact hT.same 1 (by decide) (fun k => absurd k (by decide))
          | 2, ho =>
            simp only [List.getElem?_toArray, List.getElem?_cons_succ, List.getElem?_cons_zero, Option.some.injEq] at ho
            subst ho
            have t1 : y.tmps[1]? = some (.slice (some ⟨gc, oc, none⟩) cl.length c1) := by rw [hbo 1 (by kernel_rfl)]; rfl
            unfold Oper.wp
            simp [go_sem, t1]
            exact hT.same 2 (by decide) (fun k => absurd k (by decide))
          | 3, ho =>
            simp only [List.getElem?_toArray, List.getElem?_cons_succ, List.getElem?_cons_zero, Option.some.injEq] at ho
            subst ho
            have t8 : y.tmps[8]? = some (.int .i64 (i : Int)) := by rw [hbo 8 (by kernel_rfl)]; rfl
            unfold Oper.wp
            simp [go_sem, t8]
            exact hT.same 3 (by decide) (fun k => absurd k (by decide))
          | 4, ho =>
            simp only [List.getElem?_toArray, List.getElem?_cons_succ, List.getElem?_cons_zero, Option.some.injEq] at ho
            subst ho
            have u2 : y.tmps[38]? = some (.slice (some ⟨gc, oc, none⟩) cl.length c1) := hb 2 _ 38 rfl rfl (haft ⟨2, .data⟩ (by simp) rfl)
            have u3 : y.tmps[39]? = some (.int .i64 (i : Int)) := hb 3 _ 39 rfl rfl (haft ⟨3, .data⟩ (by simp) rfl)
            have k0 : (0 : Int) ≤ (i : Int) := by omega
            have k1 : (i : Int) < (cl.length : Int) := hii
            unfold Oper.wp
            simp [go_sem, u2, u3, k0, k1]
            exact hT.same 4 (by decide) (fun k => absurd k (by decide))
          | 5, ho =>
            simp only [List.getElem?_toArray, List.getElem?_cons_succ, List.getElem?_cons_zero, Option.some.injEq] at ho
            subst ho
            have u4 : y.tmps[40]? = some (.pointer (some ⟨gc, oc + i * 3, none⟩)) := hb 4 _ 40 rfl rfl (haft ⟨4, .data⟩ (by simp) rfl)
            exact opw_ldCall _ rfl (by simp [Act.eval, u4]) (HX.out.2 X hT.bel) ⟨rfl, hT.same 5 (by decide) (fun k => absurd k (by decide))⟩
          | 6, ho =>
            simp only [List.getElem?_toArray, List.getElem?_cons_succ, List.getElem?_cons_zero, Option.some.injEq] at ho
            subst ho
            have u0 : y.tmps[36]? = some (.pointer (some ⟨rb, 0, none⟩)) := hb 0 _ 36 rfl rfl (haft ⟨0, .data⟩ (by simp) rfl)
            have u1 : y.tmps[37]? = some (.pointer (some ⟨xb, 0, none⟩)) := hb 1 _ 37 rfl rfl (haft ⟨1, .data⟩ (by simp) rfl)
            have u5 : y.tmps[41]? = some (.agg #[.int .i64 kind, .int .i64 least, .int .i64 most]) := hb 5 _ 41 rfl rfl (haft ⟨5, .data⟩ (by simp) rfl)
            unfold Oper.wp
            simp [go_sem, u0, u1, u5]
            refine (HCall.out X hT.bel (hT.pre (getD_flip hun))).mono ?_
            rintro e x1 ⟨rfl, hb1, hP⟩
            exact ⟨rfl, hb1, fun k => absurd k (by simp [hsz0]), fun _ => hP, fun _ _ _ => by simp [hsz0]⟩
          | 7, ho =>
            simp only [List.getElem?_toArray, List.getElem?_cons_succ, List.getElem?_cons_zero, Option.some.injEq] at ho
            subst ho
            have u6 : y.tmps[42]? = some (.bool true) := hb 6 _ 42 rfl rfl (haft ⟨6, .data⟩ (by simp) rfl)
            have l6 : listed.getD 6 false = true := haft ⟨6, .data⟩ (by simp) rfl
            unfold Oper.wp
            simp [go_sem, u6]
            exact hT.same 7 (by decide) (fun _ => l6)
          | 8, ho =>
            simp only [List.getElem?_toArray, List.getElem?_cons_succ, List.getElem?_cons_zero, Option.some.injEq] at ho
            subst ho
            have u7 : y.tmps[43]? = some (.bool false) := hb 7 _ 43 rfl rfl (haft ⟨7, .data⟩ (by simp) rfl)
            have l6 : listed.getD 6 false = true := hT.dep 7 (by decide) (haft ⟨7, .data⟩ (by simp) rfl)
            unfold Oper.wp
            simp [go_sem, u7]
            exact hT.same 8 (by decide) (fun _ => l6)
          | 9, ho =>
            simp only [List.getElem?_toArray, List.getElem?_cons_succ, List.getElem?_cons_zero, Option.some.injEq] at ho
            subst ho
            have t6 : y.tmps[6]? = some (.pointer (some ⟨rb, 0, none⟩)) := by rw [hbo 6 (by kernel_rfl)]; rfl
            have l6 : listed.getD 6 false = true := hT.dep 8 (by decide) (haft ⟨8, .guard⟩ (by simp) rfl)
            unfold Oper.wp
            simp [go_sem, t6]
            exact hT.same 9 (by decide) (fun _ => l6)
          | 10, ho =>
            simp only [List.getElem?_toArray, List.getElem?_cons_succ, List.getElem?_cons_zero, Option.some.injEq] at ho
            subst ho
            have u9 : y.tmps[45]? = some (.pointer (some ⟨rb, 0, none⟩)) := hb 9 _ 45 rfl rfl (haft ⟨9, .data⟩ (by simp) rfl)
            have l6 : listed.getD 6 false = true := hT.dep 8 (by decide) (haft ⟨8, .guard⟩ (by simp) rfl)
            obtain ⟨_, _, _, _, hP⟩ := hT.post l6
            unfold Oper.wp
            simp [go_sem, u9]
            refine (at_any hP.rd).mono ?_
            rintro e x1 ⟨rfl, rfl⟩
            exact ⟨rfl, hT.same 10 (by decide) (fun _ => l6)⟩
          | 11, ho =>
            simp only [List.getElem?_toArray, List.getElem?_cons_succ, List.getElem?_cons_zero, Option.some.injEq] at ho
            subst ho
            have t7 : y.tmps[7]? = some (.pointer (some ⟨xb, 0, none⟩)) := by rw [hbo 7 (by kernel_rfl)]; rfl
            have l6 : listed.getD 6 false = true := hT.dep 8 (by decide) (haft ⟨8, .guard⟩ (by simp) rfl)
            unfold Oper.wp
            simp [go_sem, t7]
            exact hT.same 11 (by decide) (fun _ => l6)
          | 12, ho =>
            simp only [List.getElem?_toArray, List.getElem?_cons_succ, List.getElem?_cons_zero, Option.some.injEq] at ho
            subst ho
            have u11 : y.tmps[47]? = some (.pointer (some ⟨xb, 0, none⟩)) := hb 11 _ 47 rfl rfl (haft ⟨11, .data⟩ (by simp) rfl)
            have l6 : listed.getD 6 false = true := hT.dep 8 (by decide) (haft ⟨8, .guard⟩ (by simp) rfl)
            unfold Oper.wp
            simp [go_sem, u11]
            exact hT.same 12 (by decide) (fun _ => l6)
          | 13, ho =>
            simp only [List.getElem?_toArray, List.getElem?_cons_succ, List.getElem?_cons_zero, Option.some.injEq] at ho
            subst ho
            have u12 : y.tmps[48]? = some (.pointer (some ⟨xb, 0, none⟩)) := hb 12 _ 48 rfl rfl (haft ⟨12, .data⟩ (by simp) rfl)
            have l6 : listed.getD 6 false = true := hT.dep 8 (by decide) (haft ⟨8, .guard⟩ (by simp) rfl)
            unfold Oper.wp
            simp [go_sem, u12]
            exact hT.same 13 (by decide) (fun _ => l6)
          | 14, ho =>
            simp only [List.getElem?_toArray, List.getElem?_cons_succ, List.getElem?_cons_zero, Option.some.injEq] at ho
            subst ho
            have u13 : y.tmps[49]? = some (.pointer (some ⟨xb, 1, none⟩)) := hb 13 _ 49 rfl rfl (haft ⟨13, .data⟩ (by simp) rfl)
            have l6 : listed.getD 6 false = true := hT.dep 8 (by decide) (haft ⟨8, .guard⟩ (by simp) rfl)
            obtain ⟨_, _, _, _, hP⟩ := hT.post l6
            have d1 := hP.xs.at_.row.cell 1
            simp only [List.getElem?_toArray, List.getElem?_cons_zero, List.getElem?_cons_succ] at d1
            unfold Oper.wp
            simp [go_sem, u13, d1]
            exact hT.same 14 (by decide) (fun _ => l6)
          | 15, ho =>
            simp only [List.getElem?_toArray, List.getElem?_cons_succ, List.getElem?_cons_zero, Option.some.injEq] at ho
            subst ho
            have u10 : y.tmps[46]? = some (.int .i64 (q : Int)) := hb 10 _ 46 rfl rfl (haft ⟨10, .data⟩ (by simp) rfl)
            have u14 : y.tmps[50]? = some (.int .i64 (q : Int)) := hb 14 _ 50 rfl rfl (haft ⟨14, .data⟩ (by simp) rfl)
            have l6 : listed.getD 6 false = true := hT.dep 8 (by decide) (haft ⟨8, .guard⟩ (by simp) rfl)
            unfold Oper.wp
            simp [go_sem, u10, u14]
            exact hT.same 15 (by decide) (fun _ => l6)
          | 16, ho =>
            simp only [List.getElem?_toArray, List.getElem?_cons_succ, List.getElem?_cons_zero, Option.some.injEq] at ho
            subst ho
            have u8 : y.tmps[44]? = some (.bool false) := hb 8 _ 44 rfl rfl (haft ⟨8, .data⟩ (by simp) rfl)
            have u15 : y.tmps[51]? = some (.bool false) := hb 15 _ 51 rfl rfl (haft ⟨15, .data⟩ (by simp) rfl)
            have l6 : listed.getD 6 false = true := hT.dep 8 (by decide) (haft ⟨8, .data⟩ (by simp) rfl)
            unfold Oper.wp
            simp [go_sem, u8, u15]
            exact hT.same 16 (by decide) (fun _ => l6)
          | 17, ho =>
            simp only [List.getElem?_toArray, List.getElem?_cons_succ, List.getElem?_cons_zero, Option.some.injEq] at ho
            subst ho
            have u16 : y.tmps[52]? = some (.bool false) := hb 16 _ 52 rfl rfl (haft ⟨16, .data⟩ (by simp) rfl)
            have l6 : listed.getD 6 false = true := hT.dep 16 (by decide) (haft ⟨16, .data⟩ (by simp) rfl)
            unfold Oper.wp
            simp [go_sem, u16]
            exact hT.same 17 (by decide) (fun _ => l6)
          | 18, ho =>
            simp only [List.getElem?_toArray, List.getElem?_cons_succ, List.getElem?_cons_zero, Option.some.injEq] at ho
            subst ho
            have t6 : y.tmps[6]? = some (.pointer (some ⟨rb, 0, none⟩)) := by rw [hbo 6 (by kernel_rfl)]; rfl
            have l6 : listed.getD 6 false = true := hT.dep 17 (by decide) (haft ⟨17, .guard⟩ (by simp) rfl)
            unfold Oper.wp
            simp [go_sem, t6]
            exact hT.same 18 (by decide) (fun _ => l6)
          | 19, ho =>
            simp only [List.getElem?_toArray, List.getElem?_cons_succ, List.getElem?_cons_zero, Option.some.injEq] at ho
            subst ho
            have u18 : y.tmps[54]? = some (.pointer (some ⟨rb, 0, none⟩)) := hb 18 _ 54 rfl rfl (haft ⟨18, .data⟩ (by simp) rfl)
            have l6 : listed.getD 6 false = true := hT.dep 17 (by decide) (haft ⟨17, .guard⟩ (by simp) rfl)
            obtain ⟨_, _, _, _, hP⟩ := hT.post l6
            unfold Oper.wp
            simp [go_sem, u18]
            have hq := hP.rd.le
            refine (left_any hP.rd).mono ?_
            rintro e x1 ⟨rfl, n, rfl⟩
            exact ⟨by rw [Int.ofNat_sub hq], hT.grow (fun _ _ a b => a.later b) (fun _ _ a b => a.later b) 19 (by decide) (fun _ => l6) (below_drewN _ n)⟩
          | 20, ho =>
            simp only [List.getElem?_toArray, List.getElem?_cons_succ, List.getElem?_cons_zero, Option.some.injEq] at ho
            subst ho
            have t7 : y.tmps[7]? = some (.pointer (some ⟨xb, 0, none⟩)) := by rw [hbo 7 (by kernel_rfl)]; rfl
            have l6 : listed.getD 6 false = true := hT.dep 17 (by decide) (haft ⟨17, .guard⟩ (by simp) rfl)
            unfold Oper.wp
            simp [go_sem, t7]
            exact hT.same 20 (by decide) (fun _ => l6)
          | 21, ho =>
            simp only [List.getElem?_toArray, List.getElem?_cons_succ, List.getElem?_cons_zero, Option.some.injEq] at ho
            subst ho
            have u20 : y.tmps[56]? = some (.pointer (some ⟨xb, 0, none⟩)) := hb 20 _ 56 rfl rfl (haft ⟨20, .data⟩ (by simp) rfl)
            have l6 : listed.getD 6 false = true := hT.dep 17 (by decide) (haft ⟨17, .guard⟩ (by simp) rfl)
            obtain ⟨_, _, _, _, hP⟩ := hT.post l6
            unfold Oper.wp
            simp [go_sem, u20]
            refine (refLeft_any hP.xs.at_).mono ?_
            rintro e x1 ⟨rfl, hb1⟩
            exact ⟨rfl, hT.grow (fun _ _ a b => a.later b) (fun _ _ a b => a.later b) 21 (by decide) (fun _ => l6) hb1⟩
          | 22, ho =>
            simp only [List.getElem?_toArray, List.getElem?_cons_succ, List.getElem?_cons_zero, Option.some.injEq] at ho
            subst ho
            have u19 : y.tmps[55]? = some (.int .i64 ((bs.length : Int) - (q : Int))) := hb 19 _ 55 rfl rfl (haft ⟨19, .data⟩ (by simp) rfl)
            have u21 : y.tmps[57]? = some (.int .i64 ((bs.length : Int) - (q : Int))) := hb 21 _ 57 rfl rfl (haft ⟨21, .data⟩ (by simp) rfl)
            have l6 : listed.getD 6 false = true := hT.dep 17 (by decide) (haft ⟨17, .guard⟩ (by simp) rfl)
            unfold Oper.wp
            simp [go_sem, u19, u21]
            exact hT.same 22 (by decide) (fun _ => l6)
          | 23, ho =>
            simp only [List.getElem?_toArray, List.getElem?_cons_succ, List.getElem?_cons_zero, Option.some.injEq] at ho
            subst ho
            have u17 : y.tmps[53]? = some (.bool false) := hb 17 _ 53 rfl rfl (haft ⟨17, .data⟩ (by simp) rfl)
            have u22 : y.tmps[58]? = some (.bool false) := hb 22 _ 58 rfl rfl (haft ⟨22, .data⟩ (by simp) rfl)
            have l6 : listed.getD 6 false = true := hT.dep 17 (by decide) (haft ⟨17, .data⟩ (by simp) rfl)
            unfold Oper.wp
            simp [go_sem, u17, u22]
            exact hT.same 23 (by decide) (fun _ => l6)
          | m + 24, ho => simp at ho
        · intro listed y X hall hT hs hdf hb hbo
          have hfin := hT.post (hall 6 (by decide))
          have hbf := hT.bel
          obtain rfl := frame_is hs hdf hb hbo
          simp only [putAll, List.setIfInBounds_toArray, List.set_cons_succ, List.set_cons_zero]
          have HF := hid_of' (And.intro hbf hfin)
          clear hall hT hs hdf hb hbo hbf hfin
          go_wp2
          go_roundw
          case rel => exact ⟨i + 1, q, s, by go_num, by omega, HF.out.2, HF.out.1⟩
          case measure => simp [intOf]; omega
      · have h200' : ¬ (i : Int) < 200 := by omega
        go_wp2_with (go_at_call 19; refine (wakes_ok (lwOf (HL.out.1.below HJ.out.1))).mono ?_; rintro e w9 ⟨rfl, hb9⟩)
        go_ret
        exact ⟨rfl, bgo HJ.out.1 hb9⟩
    · have hii : ¬ (i : Int) < (cl.length : Int) := by omega
      go_wp2_with (go_at_call 19; refine (wakes_ok (lwOf (HL.out.1.below HJ.out.1))).mono ?_; rintro e w9 ⟨rfl, hb9⟩)
      go_ret
      exact ⟨rfl, bgo HJ.out.1 hb9⟩
end Go.Proofs.YtfiajbgeijgheaaDoor
