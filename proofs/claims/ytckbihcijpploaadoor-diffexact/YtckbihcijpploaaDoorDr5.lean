
/-
  barrowref15.Distance, Edits, Common: what is refused.
-/
import Derived.Test.YtckbihcijpploaaDoorDr3
namespace Go.Proofs.YtckbihcijpploaaDoor
open Go.RowKit Go.Extern.Stop Go.Stop Go.Extern
set_option maxRecDepth 100000

theorem NoR.ch {M : Nat} {o : Rf} {v : Value} {S : Nat → Prop} {w w' : World} (h : NoR M o v w) (c : Ch S w w') (hS : ∀ s, M ≤ s → ¬ S s) : NoR M o v w' := by
  match o, h with
  | none, h => exact h
  | some (_, _, _), ⟨g, g', h1, h2, h3, h4, h5⟩ => exact ⟨g, g', h1, h2, h3, h4.ch c (hS g' h3), h5.ch c (hS g h2)⟩
theorem results_tNo {fn : Func} {t u : Tmp} {tmps : Array Value} {w : World} {g' : Nat} {cs : Array Value} (h : fn.results = #[.tmp t, .cell u 30]) (hu : tmps.getD u undef = .pointer (some ⟨g', 0, none⟩)) (hg' : RowAt g' cs 30 w) (hs : cs.size = 3) :
    (results fn tmps).run Tryd.prog w = .ok (.tuple #[tmps.getD t undef, .agg cs]) w := by
  have hu' : tmps[u]?.getD undef = .pointer (some ⟨g', 0, none⟩) := by simpa using hu
  have hi : (Tryd.prog.info? 30).map (·.size) = some cs.size := by rw [hs]; exact no_size
  simp [results, h, hu', asAddr, run_loadVar_row w g' _ _ _ _ _ hg' Tryd.underlying30 rfl hi]
theorem opw_loadNo {K : Act → World → Prop} {o : Oper} {A : Act} {w : World} {Q : Exit → Act → World → Prop} (x : Operand) (ho : o.op = .load 30 x) {b : Nat} (hx : A.eval x = .pointer (some ⟨b, 0, none⟩)) {cs : Array Value} (h : RowAt b cs 30 w) (hs : cs.size = 3) (k : K (A.put o.dst (.agg cs)) w) : o.wp Tryd.prog A w K Q := by
  have hi : (Tryd.prog.info? 30).map (·.size) = some cs.size := by rw [hs]; exact no_size
  unfold Oper.wp execOp
  simp only [ho, hx, Instr.loadAt, Instr.sureAddr, Sem.run_bind, Sem.run_pure, Result.andThen_ok, run_loadVar_in h.in Tryd.underlying30 rfl hi]
  exact k
theorem read_no (w : World) (c a b : ByteArray) (ha : a.size ≤ 120) (hb : b.size ≤ 120) {i : Int} {k : Nat} (h : chW a b = some (i, k)) : k = 2 ∧
    Calls Tryd.prog 29 #[.string c, .string a, .string b] w fun e w' => ∃ v, e = .returned (.tuple #[.slice none 0 0, .slice none 0 0, v]) ∧ NoR w.heap.size (some (c, i, 2)) v w' ∧ Below w.heap.size w w' := by
  cases hv : Lib.validD a.data.toList
  · unfold chW at h
    rw [if_pos hv] at h
    cases h
    exact ⟨rfl, read_a w c a b ha hb hv⟩
  · cases hu : Lib.validD b.data.toList
    · unfold chW at h
      rw [if_neg (by rw [hv]; decide), if_pos hu] at h
      cases h
      exact ⟨rfl, read_b w c a b ha hb hv hu⟩
    · rw [chW_small ha hb hv hu] at h
      cases h
set_option maxHeartbeats 4000000 in
theorem rDist_no (w : World) (a b : ByteArray) (ha : a.size ≤ 120) (hb : b.size ≤ 120) {i : Int} {k : Nat} (h : chW a b = some (i, k)) :
    Calls Tryd.prog 11 #[.string a, .string b] w fun e w' => ∃ v, e = .returned (.tuple #[.int .i64 0, v]) ∧ NoR w.heap.size (some (bDist, i, k)) v w' ∧ Below w.heap.size w w' := by
  have r0 := RowAt.new w (nov 0 none 0 0 none 0 0) 30
  have b0 := below_one w (.cells (nov 0 none 0 0 none 0 0) 30)
  obtain ⟨rfl, _⟩ := read_no w bDist a b ha hb h
  go_enter Tryd.func11, Tryd.ntmps11
  go_upto_region 1 with fail
  change Code.wp _ _ _ _ (w.alloc (.cells (nov 0 none 0 0 none 0 0) 30))
  generalize w.alloc (.cells (nov 0 none 0 0 none 0 0) 30) = X0 at r0 b0 ⊢
  generalize hnb5 : w.heap.size = nb5 at r0 ⊢
  have HP := hid_of' (read_no X0 bDist a b ha hb h).2
  go_upto_region 2 with (first | (go_at_call 29; refine HP.out.mono ?_; rintro e w1 ⟨v0, rfl, hn4, hb1⟩; clear HP; have HV := hid_of' (And.intro hn4 hb1); obtain ⟨g4, g4', rfl, _⟩ := hn4; clear hb1) | (refine wpL_storeNo rfl _ _ rfl rfl rfl (RowAt.new w1 _ _) ?_))
  have r7 := (RowAt.new w1 (nov 0 none 0 0 none 0 0) 30).put (nov (((2 : Nat) : Int) + 1) (some ⟨g4', 0, none⟩) 1 1 (some ⟨g4, 0, none⟩) 1 1)
  have b7 := below_row (below_one w1 (.cells (nov 0 none 0 0 none 0 0) 30)) (Nat.le_refl _) (nov (((2 : Nat) : Int) + 1) (some ⟨g4', 0, none⟩) 1 1 (some ⟨g4, 0, none⟩) 1 1)
  change Code.wp _ _ _ _ ((w1.alloc (.cells (nov 0 none 0 0 none 0 0) 30)).setRow w1.heap.size (nov (((2 : Nat) : Int) + 1) (some ⟨g4', 0, none⟩) 1 1 (some ⟨g4, 0, none⟩) 1 1))
  generalize (w1.alloc (.cells (nov 0 none 0 0 none 0 0) 30)).setRow w1.heap.size (nov (((2 : Nat) : Int) + 1) (some ⟨g4', 0, none⟩) 1 1 (some ⟨g4, 0, none⟩) 1 1) = W2 at r7 b7 ⊢
  generalize hnb7 : w1.heap.size = nb7 at r7 ⊢
  have c7 : W2.cell? ⟨nb7, 0, none⟩ = some (.int .i64 3) := r7.is rfl
  have HN7 := hid_of' r7
  have hn5 := r0.later (bgo HV.out.2 b7)
  have HB0 := hid_of' (And.intro b0 (And.intro r0.lt b7))
  clear r7 r0 b0 b7
  go_upto_region 3 with fail
  clear c7
  refine wp_region_tail 2 (by kernel_rfl) (fun _ => none) (by kernel_rfl) (by kernel_rfl) (by decide) (fun i v x => match i with
    | 0 => v = .agg (nov (((2 : Nat) : Int) + 1) (some ⟨g4', 0, none⟩) 1 1 (some ⟨g4, 0, none⟩) 1 1)
    | 1 => v = .int .i64 0
    | _ => True) (fun _ => false) (fun _ _ _ _ h => by cases h) ?_ ?_ ?_
  · intro i v x x' hR hb
    match i, hR with
    | 0, h => exact h
    | 1, h => exact h
    | m + 2, h => exact h
  · intro i o hi ho q x vals hX hdep hoth
    have t8 : q.tmps[8]? = some (.pointer (some ⟨nb7, 0, none⟩)) := by rw [hoth 8 (by kernel_rfl)]; rfl
    match i, hi, ho with
    | 0, _, ho =>
      simp only [List.getElem?_cons_zero, Option.some.injEq] at ho
      subst ho
      exact opw_loadNo _ rfl (by simp [Act.eval, t8]) (HN7.out.later hX) rfl (came _ rfl (Below.refl _ _) rfl (fun h => absurd h (by decide)))
    | 1, _, ho =>
      simp only [List.getElem?_cons_succ, List.getElem?_cons_zero, Option.some.injEq] at ho
      subst ho
      unfold Oper.wp
      simp [execOp, go_sem]
      exact came _ rfl (Below.refl _ _) rfl (fun h => absurd h (by decide))
    | m + 2, hi, _ => exact absurd hi (by omega)
  · intro vals x hX hR _
    have e1 : vals 0 = .agg (nov (((2 : Nat) : Int) + 1) (some ⟨g4', 0, none⟩) 1 1 (some ⟨g4, 0, none⟩) 1 1) := hR 0 (by decide)
    have e2 : vals 1 = .int .i64 0 := hR 1 (by decide)
    have rx := hn5.later hX
    simp only [List.drop, List.take, putAll, List.setIfInBounds_toArray, List.set_cons_succ, List.set_cons_zero, e1, e2]
    clear e1 e2 hR
    go_wp2_with (refine wpL_storeNo rfl _ _ rfl rfl rfl rx ?_)
    have k4 := Ch.row (S := fun k => k = nb5) (Ch.refl _ x) (.inl rfl) (nov (((2 : Nat) : Int) + 1) (some ⟨g4', 0, none⟩) 1 1 (some ⟨g4, 0, none⟩) 1 1)
    have hn9 := NoR.ch (NoR.later (NoR.later HV.out.1 HB0.out.2.2) hX) k4 (fun s hs e => by have := HB0.out.2.1; have e' : s = nb5 := e; omega)
    have hn6 : NoR w.heap.size (some (bDist, i, 2)) (.agg (nov (((2 : Nat) : Int) + 1) (some ⟨g4', 0, none⟩) 1 1 (some ⟨g4, 0, none⟩) 1 1)) (x.setRow nb5 (nov (((2 : Nat) : Int) + 1) (some ⟨g4', 0, none⟩) 1 1 (some ⟨g4, 0, none⟩) 1 1)) := by
      obtain ⟨y, y', e1, e2, e3, e4, e5⟩ := hn9
      exact ⟨y, y', e1, Nat.le_trans HB0.out.1.size e2, Nat.le_trans HB0.out.1.size e3, e4, e5⟩
    exact bodyPost_ret (v := .tuple #[.int .i64 0, .agg (nov (((2 : Nat) : Int) + 1) (some ⟨g4', 0, none⟩) 1 1 (some ⟨g4, 0, none⟩) 1 1)]) (results_tNo (fn := Tryd.f11) (t := 4) (u := 5) rfl rfl (rx.put (nov (((2 : Nat) : Int) + 1) (some ⟨g4', 0, none⟩) 1 1 (some ⟨g4, 0, none⟩) 1 1)) rfl) rfl ⟨_, rfl, hnb5 ▸ hn6, hnb5 ▸ below_row (bgo HB0.out.1 (bgo HV.out.2 (bgo HB0.out.2.2 hX))) (by omega) _⟩
set_option maxHeartbeats 4000000 in
theorem rEdits_no (w : World) (a b : ByteArray) (ha : a.size ≤ 120) (hb : b.size ≤ 120) {i : Int} {k : Nat} (h : chW a b = some (i, k)) :
    Calls Tryd.prog 14 #[.string a, .string b] w fun e w' => ∃ v, e = .returned (.tuple #[.slice none 0 0, v]) ∧ NoR w.heap.size (some (bEdits, i, k)) v w' ∧ Below w.heap.size w w' := by
  have r0 := RowAt.new w (nov 0 none 0 0 none 0 0) 30
  have b0 := below_one w (.cells (nov 0 none 0 0 none 0 0) 30)
  obtain ⟨rfl, _⟩ := read_no w bEdits a b ha hb h
  go_enter Tryd.func14, Tryd.ntmps14
  go_upto_region 1 with fail
  change Code.wp _ _ _ _ (w.alloc (.cells (nov 0 none 0 0 none 0 0) 30))
  generalize w.alloc (.cells (nov 0 none 0 0 none 0 0) 30) = X0 at r0 b0 ⊢
  generalize hnb5 : w.heap.size = nb5 at r0 ⊢
  have HP := hid_of' (read_no X0 bEdits a b ha hb h).2
  go_upto_region 2 with (first | (go_at_call 29; refine HP.out.mono ?_; rintro e w1 ⟨v0, rfl, hn4, hb1⟩; clear HP; have HV := hid_of' (And.intro hn4 hb1); obtain ⟨g4, g4', rfl, _⟩ := hn4; clear hb1) | (refine wpL_storeNo rfl _ _ rfl rfl rfl (RowAt.new w1 _ _) ?_))
  have r7 := (RowAt.new w1 (nov 0 none 0 0 none 0 0) 30).put (nov (((2 : Nat) : Int) + 1) (some ⟨g4', 0, none⟩) 1 1 (some ⟨g4, 0, none⟩) 1 1)
  have b7 := below_row (below_one w1 (.cells (nov 0 none 0 0 none 0 0) 30)) (Nat.le_refl _) (nov (((2 : Nat) : Int) + 1) (some ⟨g4', 0, none⟩) 1 1 (some ⟨g4, 0, none⟩) 1 1)
  change Code.wp _ _ _ _ ((w1.alloc (.cells (nov 0 none 0 0 none 0 0) 30)).setRow w1.heap.size (nov (((2 : Nat) : Int) + 1) (some ⟨g4', 0, none⟩) 1 1 (some ⟨g4, 0, none⟩) 1 1))
  generalize (w1.alloc (.cells (nov 0 none 0 0 none 0 0) 30)).setRow w1.heap.size (nov (((2 : Nat) : Int) + 1) (some ⟨g4', 0, none⟩) 1 1 (some ⟨g4, 0, none⟩) 1 1) = W2 at r7 b7 ⊢
  generalize hnb7 : w1.heap.size = nb7 at r7 ⊢
  have c7 : W2.cell? ⟨nb7, 0, none⟩ = some (.int .i64 3) := r7.is rfl
  have HN7 := hid_of' r7
  have hn5 := r0.later (bgo HV.out.2 b7)
  have HB0 := hid_of' (And.intro b0 (And.intro r0.lt b7))
  clear r7 r0 b0 b7
  go_upto_region 3 with fail
  clear c7
  refine wp_region_tail 2 (by kernel_rfl) (fun _ => none) (by kernel_rfl) (by kernel_rfl) (by decide) (fun i v x => match i with
    | 0 => v = .agg (nov (((2 : Nat) : Int) + 1) (some ⟨g4', 0, none⟩) 1 1 (some ⟨g4, 0, none⟩) 1 1)
    | 1 => v = .slice none 0 0
    | _ => True) (fun _ => false) (fun _ _ _ _ h => by cases h) ?_ ?_ ?_
  · intro i v x x' hR hb
    match i, hR with
    | 0, h => exact h
    | 1, h => exact h
    | m + 2, h => exact h
  · intro i o hi ho q x vals hX hdep hoth
    have t8 : q.tmps[8]? = some (.pointer (some ⟨nb7, 0, none⟩)) := by rw [hoth 8 (by kernel_rfl)]; rfl
    match i, hi, ho with
    | 0, _, ho =>
      simp only [List.getElem?_cons_zero, Option.some.injEq] at ho
      subst ho
      exact opw_loadNo _ rfl (by simp [Act.eval, t8]) (HN7.out.later hX) rfl (came _ rfl (Below.refl _ _) rfl (fun h => absurd h (by decide)))
    | 1, _, ho =>
      simp only [List.getElem?_cons_succ, List.getElem?_cons_zero, Option.some.injEq] at ho
      subst ho
      unfold Oper.wp
      simp [execOp, go_sem]
      exact came _ rfl (Below.refl _ _) rfl (fun h => absurd h (by decide))
    | m + 2, hi, _ => exact absurd hi (by omega)
  · intro vals x hX hR _
    have e1 : vals 0 = .agg (nov (((2 : Nat) : Int) + 1) (some ⟨g4', 0, none⟩) 1 1 (some ⟨g4, 0, none⟩) 1 1) := hR 0 (by decide)
    have e2 : vals 1 = .slice none 0 0 := hR 1 (by decide)
    have rx := hn5.later hX
    simp only [List.drop, List.take, putAll, List.setIfInBounds_toArray, List.set_cons_succ, List.set_cons_zero, e1, e2]
    clear e1 e2 hR
    go_wp2_with (refine wpL_storeNo rfl _ _ rfl rfl rfl rx ?_)
    have k4 := Ch.row (S := fun k => k = nb5) (Ch.refl _ x) (.inl rfl) (nov (((2 : Nat) : Int) + 1) (some ⟨g4', 0, none⟩) 1 1 (some ⟨g4, 0, none⟩) 1 1)
    have hn9 := NoR.ch (NoR.later (NoR.later HV.out.1 HB0.out.2.2) hX) k4 (fun s hs e => by have := HB0.out.2.1; have e' : s = nb5 := e; omega)
    have hn6 : NoR w.heap.size (some (bEdits, i, 2)) (.agg (nov (((2 : Nat) : Int) + 1) (some ⟨g4', 0, none⟩) 1 1 (some ⟨g4, 0, none⟩) 1 1)) (x.setRow nb5 (nov (((2 : Nat) : Int) + 1) (some ⟨g4', 0, none⟩) 1 1 (some ⟨g4, 0, none⟩) 1 1)) := by
      obtain ⟨y, y', e1, e2, e3, e4, e5⟩ := hn9
      exact ⟨y, y', e1, Nat.le_trans HB0.out.1.size e2, Nat.le_trans HB0.out.1.size e3, e4, e5⟩
    exact bodyPost_ret (v := .tuple #[.slice none 0 0, .agg (nov (((2 : Nat) : Int) + 1) (some ⟨g4', 0, none⟩) 1 1 (some ⟨g4, 0, none⟩) 1 1)]) (results_tNo (fn := Tryd.f14) (t := 4) (u := 5) rfl rfl (rx.put (nov (((2 : Nat) : Int) + 1) (some ⟨g4', 0, none⟩) 1 1 (some ⟨g4, 0, none⟩) 1 1)) rfl) rfl ⟨_, rfl, hnb5 ▸ hn6, hnb5 ▸ below_row (bgo HB0.out.1 (bgo HV.out.2 (bgo HB0.out.2.2 hX))) (by omega) _⟩
set_option maxHeartbeats 4000000 in
theorem rCommon_no (w : World) (a b : ByteArray) (ha : a.size ≤ 120) (hb : b.size ≤ 120) {i : Int} {k : Nat} (h : chW a b = some (i, k)) :
    Calls Tryd.prog 17 #[.string a, .string b] w fun e w' => ∃ v, e = .returned (.tuple #[.string ⟨#[]⟩, v]) ∧ NoR w.heap.size (some (bCommon, i, k)) v w' ∧ Below w.heap.size w w' := by
  have r0 := RowAt.new w (nov 0 none 0 0 none 0 0) 30
  have b0 := below_one w (.cells (nov 0 none 0 0 none 0 0) 30)
  obtain ⟨rfl, _⟩ := read_no w bCommon a b ha hb h
  go_enter Tryd.func17, Tryd.ntmps17
  go_upto_region 1 with fail
  change Code.wp _ _ _ _ (w.alloc (.cells (nov 0 none 0 0 none 0 0) 30))
  generalize w.alloc (.cells (nov 0 none 0 0 none 0 0) 30) = X0 at r0 b0 ⊢
  generalize hnb5 : w.heap.size = nb5 at r0 ⊢
  have HP := hid_of' (read_no X0 bCommon a b ha hb h).2
  go_upto_region 2 with (first | (go_at_call 29; refine HP.out.mono ?_; rintro e w1 ⟨v0, rfl, hn4, hb1⟩; clear HP; have HV := hid_of' (And.intro hn4 hb1); obtain ⟨g4, g4', rfl, _⟩ := hn4; clear hb1) | (refine wpL_storeNo rfl _ _ rfl rfl rfl (RowAt.new w1 _ _) ?_))
  have r7 := (RowAt.new w1 (nov 0 none 0 0 none 0 0) 30).put (nov (((2 : Nat) : Int) + 1) (some ⟨g4', 0, none⟩) 1 1 (some ⟨g4, 0, none⟩) 1 1)
  have b7 := below_row (below_one w1 (.cells (nov 0 none 0 0 none 0 0) 30)) (Nat.le_refl _) (nov (((2 : Nat) : Int) + 1) (some ⟨g4', 0, none⟩) 1 1 (some ⟨g4, 0, none⟩) 1 1)
  change Code.wp _ _ _ _ ((w1.alloc (.cells (nov 0 none 0 0 none 0 0) 30)).setRow w1.heap.size (nov (((2 : Nat) : Int) + 1) (some ⟨g4', 0, none⟩) 1 1 (some ⟨g4, 0, none⟩) 1 1))
  generalize (w1.alloc (.cells (nov 0 none 0 0 none 0 0) 30)).setRow w1.heap.size (nov (((2 : Nat) : Int) + 1) (some ⟨g4', 0, none⟩) 1 1 (some ⟨g4, 0, none⟩) 1 1) = W2 at r7 b7 ⊢
  generalize hnb7 : w1.heap.size = nb7 at r7 ⊢
  have c7 : W2.cell? ⟨nb7, 0, none⟩ = some (.int .i64 3) := r7.is rfl
  have HN7 := hid_of' r7
  have hn5 := r0.later (bgo HV.out.2 b7)
  have HB0 := hid_of' (And.intro b0 (And.intro r0.lt b7))
  clear r7 r0 b0 b7
  go_upto_region 3 with fail
  clear c7
  refine wp_region_tail 2 (by kernel_rfl) (fun _ => none) (by kernel_rfl) (by kernel_rfl) (by decide) (fun i v x => match i with
    | 0 => v = .agg (nov (((2 : Nat) : Int) + 1) (some ⟨g4', 0, none⟩) 1 1 (some ⟨g4, 0, none⟩) 1 1)
    | 1 => v = .string ⟨#[]⟩
    | _ => True) (fun _ => false) (fun _ _ _ _ h => by cases h) ?_ ?_ ?_
  · intro i v x x' hR hb
    match i, hR with
    | 0, h => exact h
    | 1, h => exact h
    | m + 2, h => exact h
  · intro i o hi ho q x vals hX hdep hoth
    have t8 : q.tmps[8]? = some (.pointer (some ⟨nb7, 0, none⟩)) := by rw [hoth 8 (by kernel_rfl)]; rfl
    match i, hi, ho with
    | 0, _, ho =>
      simp only [List.getElem?_cons_zero, Option.some.injEq] at ho
      subst ho
      exact opw_loadNo _ rfl (by simp [Act.eval, t8]) (HN7.out.later hX) rfl (came _ rfl (Below.refl _ _) rfl (fun h => absurd h (by decide)))
    | 1, _, ho =>
      simp only [List.getElem?_cons_succ, List.getElem?_cons_zero, Option.some.injEq] at ho
      subst ho
      unfold Oper.wp
      simp [execOp, go_sem]
      exact came _ rfl (Below.refl _ _) rfl (fun h => absurd h (by decide))
    | m + 2, hi, _ => exact absurd hi (by omega)
  · intro vals x hX hR _
    have e1 : vals 0 = .agg (nov (((2 : Nat) : Int) + 1) (some ⟨g4', 0, none⟩) 1 1 (some ⟨g4, 0, none⟩) 1 1) := hR 0 (by decide)
    have e2 : vals 1 = .string ⟨#[]⟩ := hR 1 (by decide)
    have rx := hn5.later hX
    simp only [List.drop, List.take, putAll, List.setIfInBounds_toArray, List.set_cons_succ, List.set_cons_zero, e1, e2]
    clear e1 e2 hR
    go_wp2_with (refine wpL_storeNo rfl _ _ rfl rfl rfl rx ?_)
    have k4 := Ch.row (S := fun k => k = nb5) (Ch.refl _ x) (.inl rfl) (nov (((2 : Nat) : Int) + 1) (some ⟨g4', 0, none⟩) 1 1 (some ⟨g4, 0, none⟩) 1 1)
    have hn9 := NoR.ch (NoR.later (NoR.later HV.out.1 HB0.out.2.2) hX) k4 (fun s hs e => by have := HB0.out.2.1; have e' : s = nb5 := e; omega)
    have hn6 : NoR w.heap.size (some (bCommon, i, 2)) (.agg (nov (((2 : Nat) : Int) + 1) (some ⟨g4', 0, none⟩) 1 1 (some ⟨g4, 0, none⟩) 1 1)) (x.setRow nb5 (nov (((2 : Nat) : Int) + 1) (some ⟨g4', 0, none⟩) 1 1 (some ⟨g4, 0, none⟩) 1 1)) := by
      obtain ⟨y, y', e1, e2, e3, e4, e5⟩ := hn9
      exact ⟨y, y', e1, Nat.le_trans HB0.out.1.size e2, Nat.le_trans HB0.out.1.size e3, e4, e5⟩
    exact bodyPost_ret (v := .tuple #[.string ⟨#[]⟩, .agg (nov (((2 : Nat) : Int) + 1) (some ⟨g4', 0, none⟩) 1 1 (some ⟨g4, 0, none⟩) 1 1)]) (results_tNo (fn := Tryd.f17) (t := 4) (u := 5) rfl rfl (rx.put (nov (((2 : Nat) : Int) + 1) (some ⟨g4', 0, none⟩) 1 1 (some ⟨g4, 0, none⟩) 1 1)) rfl) rfl ⟨_, rfl, hnb5 ▸ hn6, hnb5 ▸ below_row (bgo HB0.out.1 (bgo HV.out.2 (bgo HB0.out.2.2 hX))) (by omega) _⟩
end Go.Proofs.YtckbihcijpploaaDoor
