
/-
  The document's Peek of a Stack.
-/
import Derived.Test.YtgkbgojgpomcdaaDoorUn16
namespace Go.Proofs.YtgkbgojgpomcdaaDoor
open Go.RowKit Go.Extern.Stop Go.Stop Go.Extern
set_option maxRecDepth 100000

theorem results_tNo {fn : Func} {t u : Tmp} {tmps : Array Value} {w : World} {g' : Nat} {cs : Array Value} (h : fn.results = #[.tmp t, .cell u 47]) (hu : tmps.getD u undef = .pointer (some ⟨g', 0, none⟩)) (hg' : RowAt g' cs 47 w) (hs : cs.size = 3) :
    (results fn tmps).run Tryd.prog w = .ok (.tuple #[tmps.getD t undef, .agg cs]) w := by
  have hu' : tmps[u]?.getD undef = .pointer (some ⟨g', 0, none⟩) := by simpa using hu
  have hi : (Tryd.prog.info? 47).map (·.size) = some cs.size := by rw [hs]; exact no_size
  simp [results, h, hu', asAddr, run_loadVar_row w g' _ _ _ _ _ hg' Tryd.underlying47 rfl hi]
set_option maxHeartbeats 2000000 in
theorem refPeekUndo_no {B : Nat} {vd vu : Value} {F : Nat → Prop} {d u : List (List Xg)} {w : World} (h : SkAt 29 B vd vu F d u w) (h0 : d = []) :
    Calls Tryd.prog 36 #[.pointer (some ⟨B, 0, none⟩), .bool false] w fun e w' => ∃ v, e = .returned (.tuple #[.slice none 0 0, v]) ∧ NoR w.heap.size (some (bUndo, -1, 11)) v w' ∧ Below w.heap.size w w' := by
  subst h0
  obtain ⟨a, c, hv, _⟩ := h.rd.form
  obtain ⟨a', c', hv', _⟩ := h.ru.form
  subst hv hv'
  have HR0 := hid_of' h.lies
  have hY := fun x => say_is bUndo (-1) 11 x
  rw [show (((11 : Nat) : Int) + 1) = 12 from rfl] at hY
  have HY := hid_of' hY
  clear hY h
  have r0 := row_new w (nov 0 none 0 0 none 0 0) 47
  have b0 := below_one w (.cells (nov 0 none 0 0 none 0 0) 47)
  go_enter Tryd.func36, Tryd.ntmps36
  go_upto_region 1 with fail
  change Code.wp _ _ _ _ (w.alloc (.cells (nov 0 none 0 0 none 0 0) 47))
  generalize w.alloc (.cells (nov 0 none 0 0 none 0 0) 47) = X0 at r0 b0 ⊢
  have c0 := (HR0.out.later b0).cellIs 0 rfl
  go_wp2_with (first | (go_at_call 29; refine (HY.out _).mono ?_; rintro e w4 ⟨v4, rfl, hn4, hb4⟩; clear HY; have hn9 := hid_of' (And.intro hn4 hb4); obtain ⟨g4, g4', rfl, _⟩ := hn4; clear hb4) | (refine wpL_storeNo rfl _ _ rfl rfl rfl (r0.later hn9.out.2) ?_))
  have k4 := Ch.row (S := fun k => k = w.heap.size) (Ch.refl _ w4) (.inl rfl) (nov (((11 : Nat) : Int) + 1) (some ⟨g4', 0, none⟩) 1 1 (some ⟨g4, 0, none⟩) 1 1)
  have hn5 := NoR.ch hn9.out.1 k4 (fun s hs e => by have := r0.lt; have e' : s = w.heap.size := e; omega)
  have hn6 : NoR w.heap.size (some (bUndo, -1, 11)) (.agg (nov (((11 : Nat) : Int) + 1) (some ⟨g4', 0, none⟩) 1 1 (some ⟨g4, 0, none⟩) 1 1)) (w4.setRow w.heap.size (nov (((11 : Nat) : Int) + 1) (some ⟨g4', 0, none⟩) 1 1 (some ⟨g4, 0, none⟩) 1 1)) := by
    obtain ⟨x, x', e1, e2, e3, e4, e5⟩ := hn5
    exact ⟨x, x', e1, Nat.le_trans b0.size e2, Nat.le_trans b0.size e3, e4, e5⟩
  exact bodyPost_ret (v := .tuple #[.slice none 0 0, .agg (nov (((11 : Nat) : Int) + 1) (some ⟨g4', 0, none⟩) 1 1 (some ⟨g4, 0, none⟩) 1 1)]) (results_tNo (fn := Tryd.f36) (t := 4) (u := 5) rfl rfl ((r0.later hn9.out.2).put (nov (((11 : Nat) : Int) + 1) (some ⟨g4', 0, none⟩) 1 1 (some ⟨g4, 0, none⟩) 1 1)) rfl) rfl ⟨_, rfl, hn6, below_row (bgo b0 hn9.out.2) (Nat.le_refl _) _⟩
set_option maxHeartbeats 2000000 in
theorem refPeekRedo_no {B : Nat} {vd vu : Value} {F : Nat → Prop} {d u : List (List Xg)} {w : World} (h : SkAt 29 B vd vu F d u w) (h0 : u = []) :
    Calls Tryd.prog 36 #[.pointer (some ⟨B, 0, none⟩), .bool true] w fun e w' => ∃ v, e = .returned (.tuple #[.slice none 0 0, v]) ∧ NoR w.heap.size (some (bRedo, -1, 11)) v w' ∧ Below w.heap.size w w' := by
  subst h0
  obtain ⟨a, c, hv, _⟩ := h.rd.form
  obtain ⟨a', c', hv', _⟩ := h.ru.form
  subst hv hv'
  have HR0 := hid_of' h.lies
  have hY := fun x => say_is bRedo (-1) 11 x
  rw [show (((11 : Nat) : Int) + 1) = 12 from rfl] at hY
  have HY := hid_of' hY
  clear hY h
  have r0 := row_new w (nov 0 none 0 0 none 0 0) 47
  have b0 := below_one w (.cells (nov 0 none 0 0 none 0 0) 47)
  go_enter Tryd.func36, Tryd.ntmps36
  go_upto_region 1 with fail
  change Code.wp _ _ _ _ (w.alloc (.cells (nov 0 none 0 0 none 0 0) 47))
  generalize w.alloc (.cells (nov 0 none 0 0 none 0 0) 47) = X0 at r0 b0 ⊢
  have c0 := (HR0.out.later b0).cellIs 1 rfl
  go_wp2_with (first | (go_at_call 29; refine (HY.out _).mono ?_; rintro e w4 ⟨v4, rfl, hn4, hb4⟩; clear HY; have hn9 := hid_of' (And.intro hn4 hb4); obtain ⟨g4, g4', rfl, _⟩ := hn4; clear hb4) | (refine wpL_storeNo rfl _ _ rfl rfl rfl (r0.later hn9.out.2) ?_))
  have k4 := Ch.row (S := fun k => k = w.heap.size) (Ch.refl _ w4) (.inl rfl) (nov (((11 : Nat) : Int) + 1) (some ⟨g4', 0, none⟩) 1 1 (some ⟨g4, 0, none⟩) 1 1)
  have hn5 := NoR.ch hn9.out.1 k4 (fun s hs e => by have := r0.lt; have e' : s = w.heap.size := e; omega)
  have hn6 : NoR w.heap.size (some (bRedo, -1, 11)) (.agg (nov (((11 : Nat) : Int) + 1) (some ⟨g4', 0, none⟩) 1 1 (some ⟨g4, 0, none⟩) 1 1)) (w4.setRow w.heap.size (nov (((11 : Nat) : Int) + 1) (some ⟨g4', 0, none⟩) 1 1 (some ⟨g4, 0, none⟩) 1 1)) := by
    obtain ⟨x, x', e1, e2, e3, e4, e5⟩ := hn5
    exact ⟨x, x', e1, Nat.le_trans b0.size e2, Nat.le_trans b0.size e3, e4, e5⟩
  exact bodyPost_ret (v := .tuple #[.slice none 0 0, .agg (nov (((11 : Nat) : Int) + 1) (some ⟨g4', 0, none⟩) 1 1 (some ⟨g4, 0, none⟩) 1 1)]) (results_tNo (fn := Tryd.f36) (t := 4) (u := 5) rfl rfl ((r0.later hn9.out.2).put (nov (((11 : Nat) : Int) + 1) (some ⟨g4', 0, none⟩) 1 1 (some ⟨g4, 0, none⟩) 1 1)) rfl) rfl ⟨_, rfl, hn6, below_row (bgo b0 hn9.out.2) (Nat.le_refl _) _⟩
set_option maxHeartbeats 4000000 in
theorem refPeekUndo_yes {B n : Nat} {vd vu : Value} {F : Nat → Prop} {d u : List (List Xg)} {l : List Xg} {w : World} (h : SkAt 29 B vd vu F d u w) (hn : d.length = n + 1) (hl : d[n]? = some l) :
    Calls Tryd.prog 36 #[.pointer (some ⟨B, 0, none⟩), .bool false] w fun e w' => ∃ v, e = .returned (.tuple #[v, .agg (nov 0 none 0 0 none 0 0)]) ∧ NwX w.heap.size v (bkL l) w' ∧ Below w.heap.size w w' := by
  obtain ⟨g, cap, ul, hvv, _, _, hcu, _, hul⟩ := h.rd.at hl
  obtain ⟨au, cu, hu9, _⟩ := Rw.form hul.row
  obtain ⟨a, c, hv, _⟩ := h.rd.form
  obtain ⟨a', c', hv', _⟩ := h.ru.form
  subst hv hv'
  rw [hn] at hvv
  simp only [Value.slice.injEq, true_and] at hvv
  obtain ⟨rfl, rfl⟩ := hvv
  have hlies := h.lies
  rw [hn] at hlies
  have HL0 := hid_of' (And.intro hul.row.sl hul.le)
  generalize List.length l = nl at hu9
  subst hu9
  have hld := h.ld
  have hlu := h.lu
  have e1 : wrap64 ((n : Int) + 1 - 1) = (n : Int) := by rw [show (n : Int) + 1 - 1 = (n : Int) by omega]; exact wrapIs (by omega) (by omega)
  have e3 : wrap64 (n : Int) = (n : Int) := wrapIs (by omega) (by omega)
  have e4 : IntKind.i64.wrap (n : Int) = (n : Int) := (show IntKind.i64.wrap (n : Int) = wrap64 (n : Int) by rw [IntKind.wrap_i64, wrap64]).trans e3
  have kn : (n : Int) < (n : Int) + 1 := by omega
  have kn2 : n < n + 1 := by omega
  have hn0 : ¬ (n : Int) + 1 = 0 := by omega
  have HR0 := hid_of' hlies
  have HC0 := hid_of' hcu
  clear hl hul h hn hcu hlies hld hlu
  have r0 := row_new w (nov 0 none 0 0 none 0 0) 47
  have b0 := below_one w (.cells (nov 0 none 0 0 none 0 0) 47)
  go_enter Tryd.func36, Tryd.ntmps36
  go_upto_region 1 with fail
  change Code.wp _ _ _ _ (w.alloc (.cells (nov 0 none 0 0 none 0 0) 47))
  generalize w.alloc (.cells (nov 0 none 0 0 none 0 0) 47) = X0 at r0 b0 ⊢
  have HR := hid_of' (HR0.out.later b0)
  have HL : Hid (SlD X0 (.slice au nl cu) l ∧ l.length ≤ 4398046510976) := ⟨HL0.out.1.later b0, HL0.out.2⟩
  have HC : Hid (X0.cell? ⟨g, n, none⟩ = some (.slice au nl cu)) := by show _ = _; rw [b0.cell (World.block_lt_of_cell? _ _ HC0.out)]; exact HC0.out
  have c0 := HR.out.cellIs 0 rfl
  go_upto_region 7 with fail
  clear c0 HR0 HL0 HC0
  refine wp_region_tail 15 (by kernel_rfl) (fun _ => none) (by kernel_rfl) (by kernel_rfl) (by decide) (fun i v x => match i with
    | 0 => v = .pointer (some ⟨B, 0, none⟩)
    | 1 => v = .pointer (some ⟨B, 0, none⟩)
    | 2 => v = .pointer (some ⟨B, 0, none⟩)
    | 3 => v = .slice (some ⟨g, 0, none⟩) (n + 1) c
    | 4 => v = .pointer (some ⟨B, 0, none⟩)
    | 5 => v = .pointer (some ⟨B, 0, none⟩)
    | 6 => v = .pointer (some ⟨B, 0, none⟩)
    | 7 => v = .slice (some ⟨g, 0, none⟩) (n + 1) c
    | 8 => v = .int .i64 ((n : Int) + 1)
    | 9 => v = .int .i64 (n : Int)
    | 10 => v = .pointer (some ⟨g, n, none⟩)
    | 11 => v = .slice au nl cu
    | 12 => NwX X0.heap.size v (bkL l) x
    | 13 => v = .agg (nov 0 none 0 0 none 0 0)
    | 14 => NwX X0.heap.size v (bkL l) x
    | _ => True) (fun _ => false) (fun _ _ _ _ h => by cases h) ?_ ?_ ?_
  · intro i v x x' hR hb
    match i, hR with
    | 0, h => exact h
    | 1, h => exact h
    | 2, h => exact h
    | 3, h => exact h
    | 4, h => exact h
    | 5, h => exact h
    | 6, h => exact h
    | 7, h => exact h
    | 8, h => exact h
    | 9, h => exact h
    | 10, h => exact h
    | 11, h => exact h
    | 12, h => exact h.later hb
    | 13, h => exact h
    | 14, h => exact h.later hb
    | m + 15, h => exact h
  · intro i o hi ho q x vals hX hdep hoth
    have t0 : q.tmps[0]? = some (.pointer (some ⟨B, 0, none⟩)) := by rw [hoth 0 (by kernel_rfl)]; rfl
    match i, hi, ho with
    | 0, _, ho =>
      simp only [List.getElem?_cons_zero, Option.some.injEq] at ho
      subst ho
      unfold Oper.wp
      simp [execOp, go_sem, t0]
      exact came _ rfl (Below.refl _ _) rfl (fun h => absurd h (by decide))
    | 1, _, ho =>
      simp only [List.getElem?_cons_succ, List.getElem?_cons_zero, Option.some.injEq] at ho
      subst ho
      obtain ⟨u0, e0⟩ := hdep ⟨0, .data⟩ (by simp) rfl _ 35 rfl rfl
      rw [show vals 0 = .pointer (some ⟨B, 0, none⟩) from e0] at u0
      unfold Oper.wp
      simp [execOp, go_sem, u0]
      exact came _ rfl (Below.refl _ _) rfl (fun h => absurd h (by decide))
    | 2, _, ho =>
      simp only [List.getElem?_cons_succ, List.getElem?_cons_zero, Option.some.injEq] at ho
      subst ho
      obtain ⟨u1, e1⟩ := hdep ⟨1, .data⟩ (by simp) rfl _ 36 rfl rfl
      rw [show vals 1 = .pointer (some ⟨B, 0, none⟩) from e1] at u1
      unfold Oper.wp
      simp [execOp, go_sem, u1]
      exact came _ rfl (Below.refl _ _) rfl (fun h => absurd h (by decide))
    | 3, _, ho =>
      simp only [List.getElem?_cons_succ, List.getElem?_cons_zero, Option.some.injEq] at ho
      subst ho
      obtain ⟨u2, e2⟩ := hdep ⟨2, .data⟩ (by simp) rfl _ 37 rfl rfl
      rw [show vals 2 = .pointer (some ⟨B, 0, none⟩) from e2] at u2
      have cc : x.cell? ⟨B, 0, none⟩ = some (.slice (some ⟨g, 0, none⟩) (n + 1) c) := (HR.out.later hX).cellIs 0 rfl
      unfold Oper.wp
      simp [execOp, go_sem, u2, cc]
      exact came _ rfl (Below.refl _ _) rfl (fun h => absurd h (by decide))
    | 4, _, ho =>
      simp only [List.getElem?_cons_succ, List.getElem?_cons_zero, Option.some.injEq] at ho
      subst ho
      unfold Oper.wp
      simp [execOp, go_sem, t0]
      exact came _ rfl (Below.refl _ _) rfl (fun h => absurd h (by decide))
    | 5, _, ho =>
      simp only [List.getElem?_cons_succ, List.getElem?_cons_zero, Option.some.injEq] at ho
      subst ho
      obtain ⟨u4, e4⟩ := hdep ⟨4, .data⟩ (by simp) rfl _ 39 rfl rfl
      rw [show vals 4 = .pointer (some ⟨B, 0, none⟩) from e4] at u4
      unfold Oper.wp
      simp [execOp, go_sem, u4]
      exact came _ rfl (Below.refl _ _) rfl (fun h => absurd h (by decide))
    | 6, _, ho =>
      simp only [List.getElem?_cons_succ, List.getElem?_cons_zero, Option.some.injEq] at ho
      subst ho
      obtain ⟨u5, e5⟩ := hdep ⟨5, .data⟩ (by simp) rfl _ 40 rfl rfl
      rw [show vals 5 = .pointer (some ⟨B, 0, none⟩) from e5] at u5
      unfold Oper.wp
      simp [execOp, go_sem, u5]
      exact came _ rfl (Below.refl _ _) rfl (fun h => absurd h (by decide))
    | 7, _, ho =>
      simp only [List.getElem?_cons_succ, List.getElem?_cons_zero, Option.some.injEq] at ho
      subst ho
      obtain ⟨u6, e6⟩ := hdep ⟨6, .data⟩ (by simp) rfl _ 41 rfl rfl
      rw [show vals 6 = .pointer (some ⟨B, 0, none⟩) from e6] at u6
      have cc : x.cell? ⟨B, 0, none⟩ = some (.slice (some ⟨g, 0, none⟩) (n + 1) c) := (HR.out.later hX).cellIs 0 rfl
      unfold Oper.wp
      simp [execOp, go_sem, u6, cc]
      exact came _ rfl (Below.refl _ _) rfl (fun h => absurd h (by decide))
    | 8, _, ho =>
      simp only [List.getElem?_cons_succ, List.getElem?_cons_zero, Option.some.injEq] at ho
      subst ho
      obtain ⟨u7, e7⟩ := hdep ⟨7, .data⟩ (by simp) rfl _ 42 rfl rfl
      rw [show vals 7 = .slice (some ⟨g, 0, none⟩) (n + 1) c from e7] at u7
      unfold Oper.wp
      simp [go_sem, u7]
      exact came _ rfl (Below.refl _ _) rfl (fun h => absurd h (by decide))
    | 9, _, ho =>
      simp only [List.getElem?_cons_succ, List.getElem?_cons_zero, Option.some.injEq] at ho
      subst ho
      obtain ⟨u8, e8⟩ := hdep ⟨8, .data⟩ (by simp) rfl _ 43 rfl rfl
      rw [show vals 8 = .int .i64 ((n : Int) + 1) from e8] at u8
      unfold Oper.wp
      simp [execOp, go_sem, u8, e4]
      exact came _ rfl (Below.refl _ _) rfl (fun h => absurd h (by decide))
    | 10, _, ho =>
      simp only [List.getElem?_cons_succ, List.getElem?_cons_zero, Option.some.injEq] at ho
      subst ho
      obtain ⟨u3, e3⟩ := hdep ⟨3, .data⟩ (by simp) rfl _ 38 rfl rfl
      rw [show vals 3 = .slice (some ⟨g, 0, none⟩) (n + 1) c from e3] at u3
      obtain ⟨u9, e9⟩ := hdep ⟨9, .data⟩ (by simp) rfl _ 44 rfl rfl
      rw [show vals 9 = .int .i64 (n : Int) from e9] at u9
      unfold Oper.wp
      simp [execOp, go_sem, u3, u9, kn]
      exact came _ rfl (Below.refl _ _) rfl (fun h => absurd h (by decide))
    | 11, _, ho =>
      simp only [List.getElem?_cons_succ, List.getElem?_cons_zero, Option.some.injEq] at ho
      subst ho
      obtain ⟨u10, e10⟩ := hdep ⟨10, .data⟩ (by simp) rfl _ 45 rfl rfl
      rw [show vals 10 = .pointer (some ⟨g, n, none⟩) from e10] at u10
      have cc : x.cell? ⟨g, n, none⟩ = some (.slice au nl cu) := by rw [hX.cell (World.block_lt_of_cell? _ _ HC.out)]; exact HC.out
      unfold Oper.wp
      simp [execOp, go_sem, u10, cc]
      exact came _ rfl (Below.refl _ _) rfl (fun h => absurd h (by decide))
    | 12, _, ho =>
      simp only [List.getElem?_cons_succ, List.getElem?_cons_zero, Option.some.injEq] at ho
      subst ho
      obtain ⟨u11, e11⟩ := hdep ⟨11, .data⟩ (by simp) rfl _ 46 rfl rfl
      rw [show vals 11 = .slice au nl cu from e11] at u11
      unfold Oper.wp
      simp [go_sem, u11]
      refine (refBack_is (HL.out.1.later hX) HL.out.2).mono ?_
      rintro r x1 ⟨v1, rfl, hn1, hb1⟩
      exact came _ rfl hb1 ⟨hn1.1, fun k hk => by have := hn1.2 k hk; have := hX.size; omega⟩ (fun h => absurd h (by decide))
    | 13, _, ho =>
      simp only [List.getElem?_cons_succ, List.getElem?_cons_zero, Option.some.injEq] at ho
      subst ho
      unfold Oper.wp
      simp [execOp, go_sem]
      exact came _ rfl (Below.refl _ _) rfl (fun h => absurd h (by decide))
    | 14, _, ho =>
      simp only [List.getElem?_cons_succ, List.getElem?_cons_zero, Option.some.injEq] at ho
      subst ho
      obtain ⟨u12, e12⟩ := hdep ⟨12, .data⟩ (by simp) rfl _ 47 rfl rfl
      unfold Oper.wp
      simp [execOp, go_sem, u12]
      exact came _ rfl (Below.refl _ _) e12 (fun h => absurd h (by decide))
    | m + 15, hi, _ => exact absurd hi (by omega)
  · intro vals x hX hR _
    have q1 : NwX X0.heap.size (vals 14) (bkL l) x := hR 14 (by decide)
    have q2 : vals 13 = .agg (nov 0 none 0 0 none 0 0) := hR 13 (by decide)
    obtain ⟨a4, c4, hv4, _⟩ := Rw.form q1.1
    generalize List.length _ = n4 at hv4
    rw [hv4] at q1
    have rx := r0.later hX
    simp only [List.drop, List.take, putAll, List.setIfInBounds_toArray, List.set_cons_succ, List.set_cons_zero, hv4, q2]
    clear hv4 q2 hR
    go_wp2_with (refine wpL_storeNo rfl _ _ rfl rfl rfl rx ?_)
    have k4 := Ch.row (S := fun k => k = w.heap.size) (Ch.refl _ x) (.inl rfl) (nov 0 none 0 0 none 0 0)
    exact bodyPost_ret (v := .tuple #[.slice a4 n4 c4, .agg (nov 0 none 0 0 none 0 0)]) (results_tNo (fn := Tryd.f36) (t := 4) (u := 5) rfl rfl (rx.put (nov 0 none 0 0 none 0 0)) rfl) rfl ⟨_, rfl, ⟨Rw.ch q1.1 k4 (fun k hk e => by have := q1.2 k hk; have := r0.lt; have e' : k = w.heap.size := e; omega), fun k hk => by have := q1.2 k hk; have := b0.size; omega⟩, below_row (bgo b0 hX) (Nat.le_refl _) _⟩
set_option maxHeartbeats 4000000 in
theorem refPeekRedo_yes {B n : Nat} {vd vu : Value} {F : Nat → Prop} {d u : List (List Xg)} {l : List Xg} {w : World} (h : SkAt 29 B vd vu F d u w) (hn : u.length = n + 1) (hl : u[n]? = some l) :
    Calls Tryd.prog 36 #[.pointer (some ⟨B, 0, none⟩), .bool true] w fun e w' => ∃ v, e = .returned (.tuple #[v, .agg (nov 0 none 0 0 none 0 0)]) ∧ NwX w.heap.size v (agL l) w' ∧ Below w.heap.size w w' := by
  obtain ⟨g, cap, ul, hvv, _, _, hcu, _, hul⟩ := h.ru.at hl
  obtain ⟨au, cu, hu9, _⟩ := Rw.form hul.row
  obtain ⟨a, c, hv, _⟩ := h.rd.form
  obtain ⟨a', c', hv', _⟩ := h.ru.form
  subst hv hv'
  rw [hn] at hvv
  simp only [Value.slice.injEq, true_and] at hvv
  obtain ⟨rfl, rfl⟩ := hvv
  have hlies := h.lies
  rw [hn] at hlies
  have HL0 := hid_of' (And.intro hul.row.sl hul.le)
  generalize List.length l = nl at hu9
  subst hu9
  have hld := h.ld
  have hlu := h.lu
  have e1 : wrap64 ((n : Int) + 1 - 1) = (n : Int) := by rw [show (n : Int) + 1 - 1 = (n : Int) by omega]; exact wrapIs (by omega) (by omega)
  have e3 : wrap64 (n : Int) = (n : Int) := wrapIs (by omega) (by omega)
  have e4 : IntKind.i64.wrap (n : Int) = (n : Int) := (show IntKind.i64.wrap (n : Int) = wrap64 (n : Int) by rw [IntKind.wrap_i64, wrap64]).trans e3
  have kn : (n : Int) < (n : Int) + 1 := by omega
  have kn2 : n < n + 1 := by omega
  have hn0 : ¬ (n : Int) + 1 = 0 := by omega
  have HR0 := hid_of' hlies
  have HC0 := hid_of' hcu
  clear hl hul h hn hcu hlies hld hlu
  have r0 := row_new w (nov 0 none 0 0 none 0 0) 47
  have b0 := below_one w (.cells (nov 0 none 0 0 none 0 0) 47)
  go_enter Tryd.func36, Tryd.ntmps36
  go_upto_region 1 with fail
  change Code.wp _ _ _ _ (w.alloc (.cells (nov 0 none 0 0 none 0 0) 47))
  generalize w.alloc (.cells (nov 0 none 0 0 none 0 0) 47) = X0 at r0 b0 ⊢
  have HR := hid_of' (HR0.out.later b0)
  have HL : Hid (SlD X0 (.slice au nl cu) l ∧ l.length ≤ 4398046510976) := ⟨HL0.out.1.later b0, HL0.out.2⟩
  have HC : Hid (X0.cell? ⟨g, n, none⟩ = some (.slice au nl cu)) := by show _ = _; rw [b0.cell (World.block_lt_of_cell? _ _ HC0.out)]; exact HC0.out
  have c0 := HR.out.cellIs 1 rfl
  go_upto_region 4 with fail
  clear c0 HR0 HL0 HC0
  refine wp_region_tail 15 (by kernel_rfl) (fun _ => none) (by kernel_rfl) (by kernel_rfl) (by decide) (fun i v x => match i with
    | 0 => v = .pointer (some ⟨B, 0, none⟩)
    | 1 => v = .pointer (some ⟨B, 0, none⟩)
    | 2 => v = .pointer (some ⟨B, 1, none⟩)
    | 3 => v = .slice (some ⟨g, 0, none⟩) (n + 1) c'
    | 4 => v = .pointer (some ⟨B, 0, none⟩)
    | 5 => v = .pointer (some ⟨B, 0, none⟩)
    | 6 => v = .pointer (some ⟨B, 1, none⟩)
    | 7 => v = .slice (some ⟨g, 0, none⟩) (n + 1) c'
    | 8 => v = .int .i64 ((n : Int) + 1)
    | 9 => v = .int .i64 (n : Int)
    | 10 => v = .pointer (some ⟨g, n, none⟩)
    | 11 => v = .slice au nl cu
    | 12 => NwX X0.heap.size v (agL l) x
    | 13 => v = .agg (nov 0 none 0 0 none 0 0)
    | 14 => NwX X0.heap.size v (agL l) x
    | _ => True) (fun _ => false) (fun _ _ _ _ h => by cases h) ?_ ?_ ?_
  · intro i v x x' hR hb
    match i, hR with
    | 0, h => exact h
    | 1, h => exact h
    | 2, h => exact h
    | 3, h => exact h
    | 4, h => exact h
    | 5, h => exact h
    | 6, h => exact h
    | 7, h => exact h
    | 8, h => exact h
    | 9, h => exact h
    | 10, h => exact h
    | 11, h => exact h
    | 12, h => exact h.later hb
    | 13, h => exact h
    | 14, h => exact h.later hb
    | m + 15, h => exact h
  · intro i o hi ho q x vals hX hdep hoth
    have t0 : q.tmps[0]? = some (.pointer (some ⟨B, 0, none⟩)) := by rw [hoth 0 (by kernel_rfl)]; rfl
    match i, hi, ho with
    | 0, _, ho =>
      simp only [List.getElem?_cons_zero, Option.some.injEq] at ho
      subst ho
      unfold Oper.wp
      simp [execOp, go_sem, t0]
      exact came _ rfl (Below.refl _ _) rfl (fun h => absurd h (by decide))
    | 1, _, ho =>
      simp only [List.getElem?_cons_succ, List.getElem?_cons_zero, Option.some.injEq] at ho
      subst ho
      obtain ⟨u0, e0⟩ := hdep ⟨0, .data⟩ (by simp) rfl _ 14 rfl rfl
      rw [show vals 0 = .pointer (some ⟨B, 0, none⟩) from e0] at u0
      unfold Oper.wp
      simp [execOp, go_sem, u0]
      exact came _ rfl (Below.refl _ _) rfl (fun h => absurd h (by decide))
    | 2, _, ho =>
      simp only [List.getElem?_cons_succ, List.getElem?_cons_zero, Option.some.injEq] at ho
      subst ho
      obtain ⟨u1, e1⟩ := hdep ⟨1, .data⟩ (by simp) rfl _ 15 rfl rfl
      rw [show vals 1 = .pointer (some ⟨B, 0, none⟩) from e1] at u1
      unfold Oper.wp
      simp [execOp, go_sem, u1]
      exact came _ rfl (Below.refl _ _) rfl (fun h => absurd h (by decide))
    | 3, _, ho =>
      simp only [List.getElem?_cons_succ, List.getElem?_cons_zero, Option.some.injEq] at ho
      subst ho
      obtain ⟨u2, e2⟩ := hdep ⟨2, .data⟩ (by simp) rfl _ 16 rfl rfl
      rw [show vals 2 = .pointer (some ⟨B, 1, none⟩) from e2] at u2
      have cc : x.cell? ⟨B, 1, none⟩ = some (.slice (some ⟨g, 0, none⟩) (n + 1) c') := (HR.out.later hX).cellIs 1 rfl
      unfold Oper.wp
      simp [execOp, go_sem, u2, cc]
      exact came _ rfl (Below.refl _ _) rfl (fun h => absurd h (by decide))
    | 4, _, ho =>
      simp only [List.getElem?_cons_succ, List.getElem?_cons_zero, Option.some.injEq] at ho
      subst ho
      unfold Oper.wp
      simp [execOp, go_sem, t0]
      exact came _ rfl (Below.refl _ _) rfl (fun h => absurd h (by decide))
    | 5, _, ho =>
      simp only [List.getElem?_cons_succ, List.getElem?_cons_zero, Option.some.injEq] at ho
      subst ho
      obtain ⟨u4, e4⟩ := hdep ⟨4, .data⟩ (by simp) rfl _ 18 rfl rfl
      rw [show vals 4 = .pointer (some ⟨B, 0, none⟩) from e4] at u4
      unfold Oper.wp
      simp [execOp, go_sem, u4]
      exact came _ rfl (Below.refl _ _) rfl (fun h => absurd h (by decide))
    | 6, _, ho =>
      simp only [List.getElem?_cons_succ, List.getElem?_cons_zero, Option.some.injEq] at ho
      subst ho
      obtain ⟨u5, e5⟩ := hdep ⟨5, .data⟩ (by simp) rfl _ 19 rfl rfl
      rw [show vals 5 = .pointer (some ⟨B, 0, none⟩) from e5] at u5
      unfold Oper.wp
      simp [execOp, go_sem, u5]
      exact came _ rfl (Below.refl _ _) rfl (fun h => absurd h (by decide))
    | 7, _, ho =>
      simp only [List.getElem?_cons_succ, List.getElem?_cons_zero, Option.some.injEq] at ho
      subst ho
      obtain ⟨u6, e6⟩ := hdep ⟨6, .data⟩ (by simp) rfl _ 20 rfl rfl
      rw [show vals 6 = .pointer (some ⟨B, 1, none⟩) from e6] at u6
      have cc : x.cell? ⟨B, 1, none⟩ = some (.slice (some ⟨g, 0, none⟩) (n + 1) c') := (HR.out.later hX).cellIs 1 rfl
      unfold Oper.wp
      simp [execOp, go_sem, u6, cc]
      exact came _ rfl (Below.refl _ _) rfl (fun h => absurd h (by decide))
    | 8, _, ho =>
      simp only [List.getElem?_cons_succ, List.getElem?_cons_zero, Option.some.injEq] at ho
      subst ho
      obtain ⟨u7, e7⟩ := hdep ⟨7, .data⟩ (by simp) rfl _ 21 rfl rfl
      rw [show vals 7 = .slice (some ⟨g, 0, none⟩) (n + 1) c' from e7] at u7
      unfold Oper.wp
      simp [go_sem, u7]
      exact came _ rfl (Below.refl _ _) rfl (fun h => absurd h (by decide))
    | 9, _, ho =>
      simp only [List.getElem?_cons_succ, List.getElem?_cons_zero, Option.some.injEq] at ho
      subst ho
      obtain ⟨u8, e8⟩ := hdep ⟨8, .data⟩ (by simp) rfl _ 22 rfl rfl
      rw [show vals 8 = .int .i64 ((n : Int) + 1) from e8] at u8
      unfold Oper.wp
      simp [execOp, go_sem, u8, e4]
      exact came _ rfl (Below.refl _ _) rfl (fun h => absurd h (by decide))
    | 10, _, ho =>
      simp only [List.getElem?_cons_succ, List.getElem?_cons_zero, Option.some.injEq] at ho
      subst ho
      obtain ⟨u3, e3⟩ := hdep ⟨3, .data⟩ (by simp) rfl _ 17 rfl rfl
      rw [show vals 3 = .slice (some ⟨g, 0, none⟩) (n + 1) c' from e3] at u3
      obtain ⟨u9, e9⟩ := hdep ⟨9, .data⟩ (by simp) rfl _ 23 rfl rfl
      rw [show vals 9 = .int .i64 (n : Int) from e9] at u9
      unfold Oper.wp
      simp [execOp, go_sem, u3, u9, kn]
      exact came _ rfl (Below.refl _ _) rfl (fun h => absurd h (by decide))
    | 11, _, ho =>
      simp only [List.getElem?_cons_succ, List.getElem?_cons_zero, Option.some.injEq] at ho
      subst ho
      obtain ⟨u10, e10⟩ := hdep ⟨10, .data⟩ (by simp) rfl _ 24 rfl rfl
      rw [show vals 10 = .pointer (some ⟨g, n, none⟩) from e10] at u10
      have cc : x.cell? ⟨g, n, none⟩ = some (.slice au nl cu) := by rw [hX.cell (World.block_lt_of_cell? _ _ HC.out)]; exact HC.out
      unfold Oper.wp
      simp [execOp, go_sem, u10, cc]
      exact came _ rfl (Below.refl _ _) rfl (fun h => absurd h (by decide))
    | 12, _, ho =>
      simp only [List.getElem?_cons_succ, List.getElem?_cons_zero, Option.some.injEq] at ho
      subst ho
      obtain ⟨u11, e11⟩ := hdep ⟨11, .data⟩ (by simp) rfl _ 25 rfl rfl
      rw [show vals 11 = .slice au nl cu from e11] at u11
      unfold Oper.wp
      simp [go_sem, u11]
      refine (refAgain_is (HL.out.1.later hX) HL.out.2).mono ?_
      rintro r x1 ⟨v1, rfl, hn1, hb1⟩
      exact came _ rfl hb1 ⟨hn1.1, fun k hk => by have := hn1.2 k hk; have := hX.size; omega⟩ (fun h => absurd h (by decide))
    | 13, _, ho =>
      simp only [List.getElem?_cons_succ, List.getElem?_cons_zero, Option.some.injEq] at ho
      subst ho
      unfold Oper.wp
      simp [execOp, go_sem]
      exact came _ rfl (Below.refl _ _) rfl (fun h => absurd h (by decide))
    | 14, _, ho =>
      simp only [List.getElem?_cons_succ, List.getElem?_cons_zero, Option.some.injEq] at ho
      subst ho
      obtain ⟨u12, e12⟩ := hdep ⟨12, .data⟩ (by simp) rfl _ 26 rfl rfl
      unfold Oper.wp
      simp [execOp, go_sem, u12]
      exact came _ rfl (Below.refl _ _) e12 (fun h => absurd h (by decide))
    | m + 15, hi, _ => exact absurd hi (by omega)
  · intro vals x hX hR _
    have q1 : NwX X0.heap.size (vals 14) (agL l) x := hR 14 (by decide)
    have q2 : vals 13 = .agg (nov 0 none 0 0 none 0 0) := hR 13 (by decide)
    obtain ⟨a4, c4, hv4, _⟩ := Rw.form q1.1
    generalize List.length _ = n4 at hv4
    rw [hv4] at q1
    have rx := r0.later hX
    simp only [List.drop, List.take, putAll, List.setIfInBounds_toArray, List.set_cons_succ, List.set_cons_zero, hv4, q2]
    clear hv4 q2 hR
    go_wp2_with (refine wpL_storeNo rfl _ _ rfl rfl rfl rx ?_)
    have k4 := Ch.row (S := fun k => k = w.heap.size) (Ch.refl _ x) (.inl rfl) (nov 0 none 0 0 none 0 0)
    exact bodyPost_ret (v := .tuple #[.slice a4 n4 c4, .agg (nov 0 none 0 0 none 0 0)]) (results_tNo (fn := Tryd.f36) (t := 4) (u := 5) rfl rfl (rx.put (nov 0 none 0 0 none 0 0)) rfl) rfl ⟨_, rfl, ⟨Rw.ch q1.1 k4 (fun k hk e => by have := q1.2 k hk; have := r0.lt; have e' : k = w.heap.size := e; omega), fun k hk => by have := q1.2 k hk; have := b0.size; omega⟩, below_row (bgo b0 hX) (Nat.le_refl _) _⟩
end Go.Proofs.YtgkbgojgpomcdaaDoor
