
/-
  barrowlaw10.BagExact.
-/
import Derived.Test.YtdojjhhnciaegaaDoorZb51
import Derived.Test.YtdojjhhnciaegaaDoorZb22
namespace Go.Proofs.YtdojjhhnciaegaaDoor
open Go.RowKit Go.Extern.Stop Go.Stop Go.Extern
set_option maxRecDepth 100000

theorem does_any {ad : Nat → Addr} {M P B R : Nat} {vb vr : Value} {g : Bg} {w : World} (L : ∀ x, Below M w x → Laid ad x) (h : PrAt M P B R vb vr g g w) {o : Opb} (ho : o.Ok w) (hG12 : 2 < M) (hrM : o.raw ≠ [] → ∀ k, o.rv.ownBlock = some k → k < M) :
    Calls Tryd.prog 9 #[.pointer (some ⟨P, 0, none⟩), .agg (ocb o)] w (DoQ M P B R w) := by
  have h9 : wiN o.d 9 < 9 := wiN_lt (by decide)
  have ho1 := ho.raw.one
  rcases (by omega : wiN o.d 9 = 0 ∨ wiN o.d 9 = 1 ∨ wiN o.d 9 = 2 ∨ wiN o.d 9 = 3 ∨ wiN o.d 9 = 4 ∨ wiN o.d 9 = 5 ∨ wiN o.d 9 = 6 ∨ wiN o.d 9 = 7 ∨ wiN o.d 9 = 8) with hw | hw | hw | hw | hw | hw | hw | hw | hw
  · exact does_send L h ho ho1 hw hG12 hrM
  · exact does_deliver L h ho ho1 hw
  · exact does_drop L h ho ho1 hw
  · exact does_double L h ho ho1 hw
  · exact does_swap L h ho ho1 hw
  · exact does_look L h ho ho1 hw
  · exact does_to L h ho ho1 hw
  · exact does_clear L h ho ho1 hw
  · exact does_same L h ho ho1 hw
theorem opw_loadOb {o : Oper} {A : Act} {w : World} {K : Act → World → Prop} {Q : Exit → Act → World → Prop} (x : Operand) (ho : o.op = .load 43 x) {b off : Nat} (hx : A.eval x = .pointer (some ⟨b, off, none⟩)) {q : Opb} (h : CsIn b off (ocb q) w) (k : K (A.put o.dst (.agg (ocb q))) w) : o.wp Tryd.prog A w K Q := by
  unfold Oper.wp execOp
  simp only [ho, hx, Instr.loadAt, Instr.sureAddr, Sem.run_bind, Sem.run_pure, Result.andThen_ok, run_loadVar_in h Tryd.underlying43 rfl (ob_size q)]
  exact k
/-- Both Bags hold so many. -/
def LenIs (M P B R n : Nat) (X : World) : Prop := ∃ vb vr g, PrAt M P B R vb vr g g X ∧ g.l.length = n
theorem LenIs.later {M P B R n : Nat} {X X' : World} (h : LenIs M P B R n X) (hb : Below X.heap.size X X') : LenIs M P B R n X' := by
  obtain ⟨vb, vr, g, h1, h2⟩ := h
  exact ⟨vb, vr, g, h1.later hb, h2⟩
theorem LenIs.one {M P B R n m : Nat} {X : World} (h : LenIs M P B R n X) (k : LenIs M P B R m X) : n = m := by
  obtain ⟨vb, vr, g, h1, rfl⟩ := h
  obtain ⟨vb', vr', g', k1, rfl⟩ := k
  have c1 : X.cell? ⟨B, 1, none⟩ = some vb := h1.b.lies.cellIs 1 rfl
  have c2 : X.cell? ⟨B, 1, none⟩ = some vb' := k1.b.lies.cellIs 1 rfl
  obtain ⟨a, c, e⟩ := h1.b.slice
  obtain ⟨a', c', e'⟩ := k1.b.slice
  have e3 : vb = vb' := Option.some.inj (c1.symm.trans c2)
  rw [e, e'] at e3
  injection e3
def LnQ (M P B R : Nat) (u : Value) (X : World) : Prop := ∃ n : Nat, u = .int .i64 (n : Int) ∧ LenIs M P B R n X
theorem LnQ.later {M P B R : Nat} {u : Value} {X X' : World} (h : LnQ M P B R u X) (hb : Below X.heap.size X X') : LnQ M P B R u X' := by
  obtain ⟨n, h1, h2⟩ := h
  exact ⟨n, h1, h2.later hb⟩
def LsQ (M P B R : Nat) (u : Value) (X : World) : Prop := ∃ n a c, u = .slice a n c ∧ LenIs M P B R n X
theorem LsQ.later {M P B R : Nat} {u : Value} {X X' : World} (h : LsQ M P B R u X) (hb : Below X.heap.size X X') : LsQ M P B R u X' := by
  obtain ⟨n, a, c, h1, h2⟩ := h
  exact ⟨n, a, c, h1, h2.later hb⟩
/-- The pair as it goes from call to call. -/
def LpQ (w : World) (P B R : Nat) (X : World) : Prop := ∃ vb vr g, PrAt w.heap.size P B R vb vr g g X ∧ Below w.heap.size w X
theorem LpQ.later {w : World} {P B R : Nat} {X X' : World} (h : LpQ w P B R X) (hb : Below X.heap.size X X') : LpQ w P B R X' := by
  obtain ⟨vb, vr, g, h1, h2⟩ := h
  exact ⟨vb, vr, g, h1.later hb, bgo h2 hb⟩
theorem Opb.Ok.low {w w' : World} {o : Opb} (h : o.Ok w) (hb : Below w.heap.size w w') : o.Ok w' := ⟨h.d, h.i, h.j, h.raw.later hb, h.cap⟩
set_option maxHeartbeats 8000000 in
theorem bagExact_all {ad : Nat → Addr} {w : World} (L : Laid ad w) (n : Int) (_hn : In64 n) (v : Value) (os : List Opb) (hos : SlOb w v os) :
    Calls Tryd.prog 3 #[.int .i64 n, v] w fun e w' => e = .returned (.bool true) ∧ Below w.heap.size w w' := by
  obtain ⟨a9, c9, rfl⟩ := hos.form
  by_cases hr : n < 0 ∨ 4096 < n
  · have HN := hid_of' (new_no n hr w L.lb)
    have HL := hid_of' L
    have HR := hid_of' hr
    clear hos L hr
    go_enter Tryd.func3, Tryd.ntmps3
    go_upto_region 2 with (go_at_call 5; refine HN.out.mono ?_; rintro e w1 ⟨v1, rfl, hf1, hb1⟩; clear HN)
    have HS := hid_of' (refNew_no n HR.out w1)
    have H1 := hid_of' (And.intro hf1 hb1)
    clear hf1 hb1
    go_upto_region 3 with (first | (go_at_call 6; refine HS.out.mono ?_; rintro e w2 ⟨v2, rfl, hf2, hb2⟩; clear HS; obtain ⟨z0, z1, z2, z3, z4, z5, z6, rfl⟩ := hf2.form; have H2 := hid_of' (And.intro hf2 hb2); clear hf2 hb2; unfold nov) | (refine wpL_storeNo rfl _ _ rfl rfl (code := z0) (a := z1) (n := z2) (c := z3) (a' := z4) (n' := z5) (c' := z6) rfl (row_new w2 _ _) ?_))
    have rN := (row_new w2 #[.int .i64 0, .slice none 0 0, .slice none 0 0] 32).put (nov z0 z1 z2 z3 z4 z5 z6)
    have hb3 := below_row (below_one w2 (.cells #[.int .i64 0, .slice none 0 0, .slice none 0 0] 32)) (Nat.le_refl _) (nov z0 z1 z2 z3 z4 z5 z6)
    generalize (w2.alloc (.cells #[.int .i64 0, .slice none 0 0, .slice none 0 0] 32)).setRow w2.heap.size (nov z0 z1 z2 z3 z4 z5 z6) = w3 at rN hb3 ⊢
    have hb03 := bgo (bgo H1.out.2 H2.out.2) hb3
    have HRf := hid_of' (refused_is (HL.out.below hb03) (H1.out.1.later (bgo H2.out.2 hb3)) (H2.out.1.later hb3))
    have HB3 := hid_of' hb03
    have HRN := hid_of' rN
    clear rN hb3 hb03
    go_wp2_with (first | (refine wpL_loadNo rfl _ rfl rfl HRN.out rfl ?_) | (go_at_call 7; refine HRf.out.mono ?_; rintro e w4 ⟨rfl, hb4⟩; clear HRf) | (go_at_call 8; refine (wakes10_ok _).mono ?_; rintro e w5 ⟨rfl, hb5⟩))
    go_ret
    exact ⟨rfl, bgo (bgo HB3.out hb4) hb5⟩
  have HN := hid_of' (new_ok n (by omega) (by omega) w)
  have HR := hid_of' (show 0 ≤ n ∧ n ≤ 4096 by omega)
  have HL := hid_of' L
  have HO := hid_of' hos
  clear hos L hr
  go_enter Tryd.func3, Tryd.ntmps3
  go_upto_region 2 with (go_at_call 5; refine HN.out.mono ?_; rintro e w1 ⟨rfl, hf1, hb1⟩; clear HN)
  have HS := hid_of' (refNew_ok n HR.out.1 HR.out.2 w1)
  have H1 := hid_of' (And.intro hf1 hb1)
  clear hf1 hb1
  go_upto_region 3 with (first | (go_at_call 6; refine HS.out.mono ?_; rintro e w2 ⟨rfl, hf2, hb2⟩; clear HS; have H2 := hid_of' (And.intro hf2 hb2); clear hf2 hb2; unfold nov0) | (refine wpL_storeNo rfl _ _ rfl rfl (code := 0) (a := none) (n := 0) (c := 0) (a' := none) (n' := 0) (c' := 0) rfl (row_new w2 _ _) ?_))
  have rN := (row_new w2 #[.int .i64 0, .slice none 0 0, .slice none 0 0] 32).put (nov 0 none 0 0 none 0 0)
  have hb3 := below_row (below_one w2 (.cells #[.int .i64 0, .slice none 0 0, .slice none 0 0] 32)) (Nat.le_refl _) (nov 0 none 0 0 none 0 0)
  generalize (w2.alloc (.cells #[.int .i64 0, .slice none 0 0, .slice none 0 0] 32)).setRow w2.heap.size (nov 0 none 0 0 none 0 0) = w3 at rN hb3 ⊢
  have hb03 := bgo (bgo H1.out.2 H2.out.2) hb3
  have HRf := hid_of' (refused_is (M := 0) (M' := 0) (o := none) (v := .nilIface) (u := .agg (nov 0 none 0 0 none 0 0)) (HL.out.below hb03) rfl rfl)
  have H3 := hid_of' (And.intro (H1.out.1.later (bgo H2.out.2 hb3)) (And.intro (H2.out.1.later hb3) hb03))
  have HRN := hid_of' rN
  have HZ1 := hid_of' (And.intro H1.out.1.lies.lt (And.intro H2.out.1.lies.lt (And.intro H1.out.2.size (And.intro H2.out.2.size hb3.size))))
  clear rN hb3 hb03
  go_upto_region 7 with (first | (refine wpL_loadNo rfl _ rfl rfl HRN.out rfl ?_) | (go_at_call 7; refine HRf.out.mono ?_; rintro e w4 ⟨rfl, hb4⟩; clear HRf))
  have hs4 := hb4.size
  have r4 := row_new w4 #[.pointer (some ⟨w.heap.size, 0, none⟩), .pointer (some ⟨w1.heap.size + 1, 0, none⟩)] 39
  have hb5 := bgo hb4 (below_one w4 (.cells #[.pointer (some ⟨w.heap.size, 0, none⟩), .pointer (some ⟨w1.heap.size + 1, 0, none⟩)] 39))
  have hpr : PrAt w.heap.size w4.heap.size w.heap.size (w1.heap.size + 1) (.slice none 0 0) (.slice none 0 0) (bg0 n) (bg0 n) (w4.alloc (.cells #[.pointer (some ⟨w.heap.size, 0, none⟩), .pointer (some ⟨w1.heap.size + 1, 0, none⟩)] 39)) := by
    obtain ⟨z1, z2, z3, z4, z5⟩ := HZ1.out
    refine ⟨r4, (H3.out.1.later hb5).mono (fun _ _ _ => trivial), (H3.out.2.1.later hb5).mono (fun _ _ _ => trivial), ?_, ?_, by omega⟩
    · rintro k (e | e)
      · exact ⟨by omega, by omega, by rintro (q | q) <;> first | omega | cases q⟩
      · cases e
    · rintro k (e | e)
      · exact ⟨by omega, by omega⟩
      · cases e
  have HP := hid_of' (And.intro hpr (bgo H3.out.2.2 hb5))
  clear hpr hb4 hb5 r4 hs4
  go_upto_region 8 with fail
  generalize w4.alloc (.cells #[.pointer (some ⟨w.heap.size, 0, none⟩), .pointer (some ⟨w1.heap.size + 1, 0, none⟩)] 39) = W at HP ⊢
  obtain ⟨B, hB⟩ : ∃ B, w.heap.size = B := ⟨_, rfl⟩
  obtain ⟨R, hR⟩ : ∃ R, w1.heap.size + 1 = R := ⟨_, rfl⟩
  obtain ⟨P, hP⟩ : ∃ P, w4.heap.size = P := ⟨_, rfl⟩
  have HPr : Hid (LpQ w P B R W) := by
    rw [← hB, ← hR, ← hP]
    exact ⟨_, _, _, HP.out.1, HP.out.2⟩
  have HG12 := hid_of' (show 2 < w.heap.size from World.block_lt_of_cell? _ _ (HL.out.lb 12 (by decide)))
  rw [hB, hR, hP]
  clear HP hB hR hP H1 H2 H3 HRN HZ1 HR
  go_wp2
  go_loopw [10] (fun i wr => ∃ k : Nat, i = .int .i64 (k : Int) ∧ k ≤ os.length ∧ k ≤ 250 ∧ LpQ w P B R wr) (fun i _ => os.length - (intOf i).toNat)
  case atStart => exact ⟨0, rfl, by omega, by omega, HPr.out⟩
  case round =>
    rename World => wr
    obtain ⟨k, rfl, hk, hk2, vb, vr, g, hpr, hlow⟩ := hrel
    by_cases hkl : k < os.length
    · have hki : (k : Int) < (os.length : Int) := by omega
      by_cases hk250 : k < 250
      · have hkj : (k : Int) < 250 := by omega
        obtain ⟨gu, ou, op, hua, hOk, hCs⟩ : ∃ gu ou op, a9 = some ⟨gu, ou, none⟩ ∧ Opb.Ok w op ∧ CsIn gu (ou + k * 4) (ocb op) w := by
          rcases HO.out with ⟨e, _⟩ | ⟨gu, ou, c, e, h⟩
          · rw [e] at hkl; simp at hkl
          · cases e
            exact ⟨gu, ou, os[k], rfl, (h k _ (List.getElem?_eq_getElem hkl)).1, (h k _ (List.getElem?_eq_getElem hkl)).2⟩
        subst hua
        have HA := hid_of' (And.intro hpr hlow)
        have HX := hid_of' (And.intro (hOk.low hlow) (hCs.later hlow))
        have HD : Hid (∀ X, Below wr.heap.size wr X → Calls Tryd.prog 9 #[.pointer (some ⟨P, 0, none⟩), .agg (ocb op)] X (DoQ w.heap.size P B R X)) := fun X hX => does_any (fun x hx => HL.out.below ((bgo HA.out.2 hX).trans hx)) (HA.out.1.later hX) (HX.out.1.low hX) HG12.out (fun hne j hj => hOk.raw.lt hne j hj)
        clear hpr hlow hOk hCs
        go_upto_region 11 with fail
        have hk0 : (0 : Int) ≤ (k : Int) := by omega
        refine wp_region_seqE 17 (by kernel_rfl) (fun j => if j = 7 then some false else none) (by kernel_rfl) (by kernel_rfl) (by decide) (fun ii u X => match ii with
          | 0 => u = .pointer (some ⟨P, 0, none⟩)
          | 1 => u = .slice (some ⟨gu, ou, none⟩) os.length c9
          | 2 => u = .int .i64 (k : Int)
          | 3 => u = .pointer (some ⟨gu, ou + k * 4, none⟩)
          | 4 => u = .agg (ocb op)
          | 5 => u = .bool true
          | 6 => u = .bool false
          | 7 => u = .bool false
          | 8 => u = .pointer (some ⟨B, 0, none⟩)
          | 9 => LnQ w.heap.size P B R u X
          | 10 => u = .pointer (some ⟨R, 0, none⟩)
          | 11 => u = .pointer (some ⟨R, 0, none⟩)
          | 12 => u = .pointer (some ⟨R, 2, none⟩)
          | 13 => LsQ w.heap.size P B R u X
          | 14 => LnQ w.heap.size P B R u X
          | 15 => u = .bool false
          | 16 => u = .bool false
          | _ => True) (fun _ => false) ?_ [5] (by decide) (by decide) (fun kk X => match kk with | 0 => Below wr.heap.size wr X | _ + 1 => LpQ w P B R X) (fun _ _ _ => True) (fun kk X X' hG hb => match kk, hG with | 0, hG => bgo hG hb | _ + 1, hG => LpQ.later hG hb) (fun _ h => h) ?_ ?_ ?_ ?_
        · intro j v x b hj hR
          by_cases e7 : j = 7
          · subst e7; simp at hj; subst hj; exact hR
          simp [e7] at hj
        · intro ii u X X' hR hb
          match ii, hR with
          | 0, h => exact h
          | 1, h => exact h
          | 2, h => exact h
          | 3, h => exact h
          | 4, h => exact h
          | 5, h => exact h
          | 6, h => exact h
          | 7, h => exact h
          | 8, h => exact h
          | 9, h => exact h.later hb
          | 10, h => exact h
          | 11, h => exact h
          | 12, h => exact h
          | 13, h => exact h.later hb
          | 14, h => exact h.later hb
          | 15, h => exact h
          | 16, h => exact h
          | m + 17, h => exact h
        · intro cc ii u X X' hcc hne hanc hR hb
          match ii, hne, hanc, hR with
          | 0, hne, hanc, h => exact h
          | 1, hne, hanc, h => exact h
          | 2, hne, hanc, h => exact h
          | 3, hne, hanc, h => exact h
          | 4, hne, hanc, h => exact h
          | 5, hne, hanc, h => exact h
          | 6, hne, hanc, h => exact h
          | 7, hne, hanc, h => exact h
          | 8, hne, hanc, h => exact h
          | 9, hne, hanc, h => exact absurd hanc (by rw [List.mem_singleton.1 hcc, show ancB _ 24 5 9 = true by kernel_rfl]; decide)
          | 10, hne, hanc, h => exact h
          | 11, hne, hanc, h => exact h
          | 12, hne, hanc, h => exact h
          | 13, hne, hanc, h => exact absurd hanc (by rw [List.mem_singleton.1 hcc, show ancB _ 24 5 13 = true by kernel_rfl]; decide)
          | 14, hne, hanc, h => exact absurd hanc (by rw [List.mem_singleton.1 hcc, show ancB _ 24 5 14 = true by kernel_rfl]; decide)
          | 15, hne, hanc, h => exact h
          | 16, hne, hanc, h => exact h
          | m + 17, hne, hanc, h => exact h
        · intro ii o9 hi ho q X vals kk hG hlo hhi hdep hoth
          have t9 : q.tmps[9]? = some (.pointer (some ⟨P, 0, none⟩)) := by rw [hoth 9 (by kernel_rfl)]; rfl
          have t1 : q.tmps[1]? = some (.slice (some ⟨gu, ou, none⟩) os.length c9) := by rw [hoth 1 (by kernel_rfl)]; rfl
          have t10 : q.tmps[10]? = some (.int .i64 (k : Int)) := by rw [hoth 10 (by kernel_rfl)]; rfl
          have t5 : q.tmps[5]? = some (.pointer (some ⟨B, 0, none⟩)) := by rw [hoth 5 (by kernel_rfl)]; rfl
          have t7 : q.tmps[7]? = some (.pointer (some ⟨R, 0, none⟩)) := by rw [hoth 7 (by kernel_rfl)]; rfl
          match ii, hi, ho, hlo, hhi with
          | 0, _, ho, hlo, hhi =>
            simp only [List.getElem?_cons_zero, Option.some.injEq] at ho
            subst ho
            unfold Oper.wp
            simp [execOp, go_sem, t9]
            exact cameDB _ rfl (by decide) (Below.refl _ _) rfl (fun h => absurd h (by decide))
          | 1, _, ho, hlo, hhi =>
            simp only [List.getElem?_cons_succ, List.getElem?_cons_zero, Option.some.injEq] at ho
            subst ho
            unfold Oper.wp
            simp [execOp, go_sem, t1]
            exact cameDB _ rfl (by decide) (Below.refl _ _) rfl (fun h => absurd h (by decide))
          | 2, _, ho, hlo, hhi =>
            simp only [List.getElem?_cons_succ, List.getElem?_cons_zero, Option.some.injEq] at ho
            subst ho
            unfold Oper.wp
            simp [execOp, go_sem, t10]
            exact cameDB _ rfl (by decide) (Below.refl _ _) rfl (fun h => absurd h (by decide))
          | 3, _, ho, hlo, hhi =>
            simp only [List.getElem?_cons_succ, List.getElem?_cons_zero, Option.some.injEq] at ho
            subst ho
            obtain ⟨u1, e1⟩ := hdep ⟨1, .data⟩ (by simp) rfl _ 50 rfl rfl
            rw [show vals 1 = .slice (some ⟨gu, ou, none⟩) os.length c9 from e1] at u1
            obtain ⟨u2, e2⟩ := hdep ⟨2, .data⟩ (by simp) rfl _ 51 rfl rfl
            rw [show vals 2 = .int .i64 (k : Int) from e2] at u2
            unfold Oper.wp
            simp [execOp, go_sem, u1, u2, hki, hk0]
            exact cameDB _ rfl (by decide) (Below.refl _ _) rfl (fun h => absurd h (by decide))
          | 4, _, ho, hlo, hhi =>
            simp only [List.getElem?_cons_succ, List.getElem?_cons_zero, Option.some.injEq] at ho
            subst ho
            obtain ⟨u3, e3⟩ := hdep ⟨3, .data⟩ (by simp) rfl _ 52 rfl rfl
            rw [show vals 3 = .pointer (some ⟨gu, ou + k * 4, none⟩) from e3] at u3
            obtain rfl : kk = 0 := Nat.le_zero.1 (Nat.le_trans hhi (Nat.le_of_eq (by kernel_rfl)))
            have hb0 : Below wr.heap.size wr X := hG
            exact opw_loadOb (q := op) _ rfl (by simp [Act.eval, u3]) (HX.out.2.later hb0) (cameDB _ rfl (by decide) (Below.refl _ _) rfl (fun h => absurd h (by decide)))
          | 5, _, ho, hlo, hhi =>
            simp only [List.getElem?_cons_succ, List.getElem?_cons_zero, Option.some.injEq] at ho
            subst ho
            obtain ⟨u0, e0⟩ := hdep ⟨0, .data⟩ (by simp) rfl _ 49 rfl rfl
            rw [show vals 0 = .pointer (some ⟨P, 0, none⟩) from e0] at u0
            obtain ⟨u4, e4⟩ := hdep ⟨4, .data⟩ (by simp) rfl _ 53 rfl rfl
            rw [show vals 4 = .agg (ocb op) from e4] at u4
            obtain rfl : kk = 0 := Nat.le_zero.1 (Nat.le_trans hhi (Nat.le_of_eq (by kernel_rfl)))
            have hb0 : Below wr.heap.size wr X := hG
            unfold Oper.wp
            simp [go_sem, u0, u4]
            refine (HD.out X hb0).mono ?_
            rintro r X1 ⟨rfl, vb1, vr1, g1, p1, b1⟩
            exact cameDX _ rfl (by decide) ⟨trivial, ⟨_, _, _, p1, (HA.out.2.trans (hb0.mono HA.out.2.size)).trans b1⟩, b1.size⟩ rfl rfl
          | 6, _, ho, hlo, hhi =>
            simp only [List.getElem?_cons_succ, List.getElem?_cons_zero, Option.some.injEq] at ho
            subst ho
            obtain ⟨u5, e5⟩ := hdep ⟨5, .data⟩ (by simp) rfl _ 54 rfl rfl
            rw [show vals 5 = .bool true from e5] at u5
            unfold Oper.wp
            simp [execOp, go_sem, u5]
            exact cameDB _ rfl (by decide) (Below.refl _ _) rfl (fun h => absurd h (by decide))
          | 7, _, ho, hlo, hhi =>
            simp only [List.getElem?_cons_succ, List.getElem?_cons_zero, Option.some.injEq] at ho
            subst ho
            obtain ⟨u6, e6⟩ := hdep ⟨6, .data⟩ (by simp) rfl _ 55 rfl rfl
            rw [show vals 6 = .bool false from e6] at u6
            unfold Oper.wp
            simp [execOp, go_sem, u6]
            exact cameDB _ rfl (by decide) (Below.refl _ _) rfl (fun h => absurd h (by decide))
          | 8, _, ho, hlo, hhi =>
            simp only [List.getElem?_cons_succ, List.getElem?_cons_zero, Option.some.injEq] at ho
            subst ho
            unfold Oper.wp
            simp [execOp, go_sem, t5]
            exact cameDB _ rfl (by decide) (Below.refl _ _) rfl (fun h => absurd h (by decide))
          | 9, _, ho, hlo, hhi =>
            simp only [List.getElem?_cons_succ, List.getElem?_cons_zero, Option.some.injEq] at ho
            subst ho
            obtain ⟨u8, e8⟩ := hdep ⟨8, .data⟩ (by simp) rfl _ 57 rfl rfl
            rw [show vals 8 = .pointer (some ⟨B, 0, none⟩) from e8] at u8
            obtain rfl : kk = 1 := Nat.le_antisymm (Nat.le_trans hhi (Nat.le_of_eq (by kernel_rfl))) (Nat.le_trans (Nat.le_of_eq (by kernel_rfl)) hlo)
            obtain ⟨vb1, vr1, g1, p1, b1⟩ : LpQ w P B R X := hG
            unfold Oper.wp
            simp [go_sem, u8]
            refine (len_is p1.b).mono ?_
            rintro r X1 ⟨rfl, h0⟩
            obtain rfl := h0.symm
            exact cameDB _ rfl (by decide) (Below.refl _ _) ⟨_, rfl, _, _, _, p1, rfl⟩ (fun h => absurd h (by decide))
          | 10, _, ho, hlo, hhi =>
            simp only [List.getElem?_cons_succ, List.getElem?_cons_zero, Option.some.injEq] at ho
            subst ho
            unfold Oper.wp
            simp [execOp, go_sem, t7]
            exact cameDB _ rfl (by decide) (Below.refl _ _) rfl (fun h => absurd h (by decide))
          | 11, _, ho, hlo, hhi =>
            simp only [List.getElem?_cons_succ, List.getElem?_cons_zero, Option.some.injEq] at ho
            subst ho
            obtain ⟨u10, e10⟩ := hdep ⟨10, .data⟩ (by simp) rfl _ 59 rfl rfl
            rw [show vals 10 = .pointer (some ⟨R, 0, none⟩) from e10] at u10
            unfold Oper.wp
            simp [execOp, go_sem, u10]
            exact cameDB _ rfl (by decide) (Below.refl _ _) rfl (fun h => absurd h (by decide))
          | 12, _, ho, hlo, hhi =>
            simp only [List.getElem?_cons_succ, List.getElem?_cons_zero, Option.some.injEq] at ho
            subst ho
            obtain ⟨u11, e11⟩ := hdep ⟨11, .data⟩ (by simp) rfl _ 60 rfl rfl
            rw [show vals 11 = .pointer (some ⟨R, 0, none⟩) from e11] at u11
            unfold Oper.wp
            simp [execOp, go_sem, u11]
            exact cameDB _ rfl (by decide) (Below.refl _ _) rfl (fun h => absurd h (by decide))
          | 13, _, ho, hlo, hhi =>
            simp only [List.getElem?_cons_succ, List.getElem?_cons_zero, Option.some.injEq] at ho
            subst ho
            obtain ⟨u12, e12⟩ := hdep ⟨12, .data⟩ (by simp) rfl _ 61 rfl rfl
            rw [show vals 12 = .pointer (some ⟨R, 2, none⟩) from e12] at u12
            obtain rfl : kk = 1 := Nat.le_antisymm (Nat.le_trans hhi (Nat.le_of_eq (by kernel_rfl))) (Nat.le_trans (Nat.le_of_eq (by kernel_rfl)) hlo)
            obtain ⟨vb1, vr1, g1, p1, b1⟩ : LpQ w P B R X := hG
            obtain ⟨a1, c1, e1⟩ := p1.r.slice
            have cc := p1.r.lies.cellIs 2 rfl
            rw [e1] at cc
            unfold Oper.wp
            simp [execOp, go_sem, u12, cc]
            exact cameDB _ rfl (by decide) (Below.refl _ _) ⟨_, _, _, rfl, _, _, _, p1, rfl⟩ (fun h => absurd h (by decide))
          | 14, _, ho, hlo, hhi =>
            simp only [List.getElem?_cons_succ, List.getElem?_cons_zero, Option.some.injEq] at ho
            subst ho
            obtain ⟨u13, e13⟩ := hdep ⟨13, .data⟩ (by simp) rfl _ 62 rfl rfl
            obtain ⟨n1, a1, c1, h13, q13⟩ : LsQ w.heap.size P B R (vals 13) X := e13
            rw [h13] at u13
            unfold Oper.wp
            simp [go_sem, u13]
            exact cameDB _ rfl (by decide) (Below.refl _ _) ⟨_, rfl, q13⟩ (fun h => absurd h (by decide))
          | 15, _, ho, hlo, hhi =>
            simp only [List.getElem?_cons_succ, List.getElem?_cons_zero, Option.some.injEq] at ho
            subst ho
            obtain ⟨u9, e9⟩ := hdep ⟨9, .data⟩ (by simp) rfl _ 58 rfl rfl
            obtain ⟨u14, e14⟩ := hdep ⟨14, .data⟩ (by simp) rfl _ 63 rfl rfl
            obtain ⟨n1, h9, q9⟩ : LnQ w.heap.size P B R (vals 9) X := e9
            obtain ⟨n2, h14, q14⟩ : LnQ w.heap.size P B R (vals 14) X := e14
            have e12 := q9.one q14
            rw [h9] at u9
            rw [h14, ← e12] at u14
            unfold Oper.wp
            simp [execOp, go_sem, u9, u14]
            exact cameDB _ rfl (by decide) (Below.refl _ _) rfl (fun h => absurd h (by decide))
          | 16, _, ho, hlo, hhi =>
            simp only [List.getElem?_cons_succ, List.getElem?_cons_zero, Option.some.injEq] at ho
            subst ho
            obtain ⟨u7, e7⟩ := hdep ⟨7, .data⟩ (by simp) rfl _ 56 rfl rfl
            rw [show vals 7 = .bool false from e7] at u7
            obtain ⟨u15, e15⟩ := hdep ⟨15, .data⟩ (by simp) rfl _ 64 rfl rfl
            rw [show vals 15 = .bool false from e15] at u15
            unfold Oper.wp
            simp [execOp, go_sem, u7, u15]
            exact cameDB _ rfl (by decide) (Below.refl _ _) rfl (fun h => absurd h (by decide))
          | m + 17, hi, _, _, _ => exact absurd hi (by omega)
        · intro vals X hX hR _
          obtain ⟨vb1, vr1, g1, p1, b1⟩ : LpQ w P B R X := hX
          have e16 : vals 16 = .bool false := hR 16 (by decide)
          have HZ := hid_of' (And.intro p1 b1)
          clear hR p1 b1
          simp only [List.drop, List.take, putAll, List.setIfInBounds_toArray, List.set_cons_succ, List.set_cons_zero, e16]
          clear e16
          go_wp2
          go_roundw
          case rel => exact ⟨k + 1, by go_num, by omega, by omega, _, _, _, HZ.out.1, HZ.out.2⟩
          case measure => simp [intOf]; omega
      · have hkj : ¬ (k : Int) < 250 := by omega
        have HS := hid_of' (same_ok hpr)
        go_wp2_with (first | (go_at_call 11; refine HS.out.mono ?_; rintro e w5 ⟨rfl, hb5⟩; clear HS) | (go_at_call 8; refine (wakes10_ok _).mono ?_; rintro e w6 ⟨rfl, hb6⟩))
        go_ret
        exact ⟨rfl, bgo (bgo hlow hb5) hb6⟩
    · have hki : ¬ (k : Int) < (os.length : Int) := by omega
      have HS := hid_of' (same_ok hpr)
      go_wp2_with (first | (go_at_call 11; refine HS.out.mono ?_; rintro e w5 ⟨rfl, hb5⟩; clear HS) | (go_at_call 8; refine (wakes10_ok _).mono ?_; rintro e w6 ⟨rfl, hb6⟩))
      go_ret
      exact ⟨rfl, bgo (bgo hlow hb5) hb6⟩
end Go.Proofs.YtdojjhhnciaegaaDoor
