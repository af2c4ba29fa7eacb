
/-
  The document's Take of a Stack.
-/
import Derived.Test.YtgkbgojgpomcdaaDoorUn17
namespace Go.Proofs.YtgkbgojgpomcdaaDoor
open Go.RowKit Go.Extern.Stop Go.Stop Go.Extern
set_option maxRecDepth 100000

theorem opw_loadNo {o : Oper} {A : Act} {w : World} {K : Act → World → Prop} {Q : Exit → Act → World → Prop} (x : Operand) (ho : o.op = .load 47 x) {b : Nat} (hx : A.eval x = .pointer (some ⟨b, 0, none⟩)) {cs : Array Value} (h : RowAt b cs 47 w) (hs : cs.size = 3) (k : K (A.put o.dst (.agg cs)) w) : o.wp Tryd.prog A w K Q := by
  have hi : (Tryd.prog.info? 47).map (·.size) = some cs.size := by rw [hs]; exact no_size
  unfold Oper.wp execOp
  simp only [ho, hx, Instr.loadAt, Instr.sureAddr, Sem.run_bind, Sem.run_pure, Result.andThen_ok, run_loadVar_in h.in Tryd.underlying47 rfl hi]
  exact k
theorem wpL_loadNo {ops : Array Oper} {rest : List Oper} {o : Oper} {A : Act} {w : World} {Q : Exit → Act → World → Prop} (hgd : o.guard = none) (x : Operand) (ho : o.op = .load 47 x) {b : Nat} (hx : A.eval x = .pointer (some ⟨b, 0, none⟩)) {cs : Array Value} (h : RowAt b cs 47 w) (hs : cs.size = 3) (k : wpList Tryd.prog ops Q rest (A.put o.dst (.agg cs)) w) : wpList Tryd.prog ops Q (o :: rest) A w :=
  wpList_plain hgd fun _ hK => opw_loadNo x ho hx h hs (hK _ _ k)
theorem OwnV.first {w : World} {g n cap : Nat} {us : List Value} (h : OwnV (.slice (some ⟨g, 0, none⟩) (n + 1) cap) us w) (hn : us.length = n + 1) : OwnV (.slice (some ⟨g, 0, none⟩) n cap) (us.take n) w := by
  have hl : (us.take n).length = n := by rw [List.length_take]; omega
  refine ⟨⟨by rw [hl]; omega, ?_⟩, fun u hu => h.2 u (List.mem_of_mem_take hu)⟩
  rcases h.1.2 with ⟨q, _⟩ | ⟨g', cap', cur, q, hg, h1, h2, h3, h4⟩
  · cases q
  · simp only [Value.slice.injEq, Option.some.injEq, Addr.mk.injEq, and_true] at q
    obtain ⟨rfl, _, rfl⟩ := q
    refine .inr ⟨g, cap, cur, by rw [hl], hg, by omega, h2, h3, ?_⟩
    rw [hl, ← h4, List.take_take]
    congr 1
    omega
set_option maxHeartbeats 8000000 in
theorem refUndo_yes {B n : Nat} {vd vu : Value} {F : Nat → Prop} {d u : List (List Xg)} {l : List Xg} {w : World} (h : SkAt 29 B vd vu F d u w) (hn : d.length = n + 1) (hl : d[n]? = some l) :
    Calls Tryd.prog 33 #[.pointer (some ⟨B, 0, none⟩), .bool false] w fun e w' => ∃ v vd9 vu9 F9, e = .returned (.tuple #[v, .agg (nov 0 none 0 0 none 0 0)]) ∧ NwX w.heap.size v (bkL l) w' ∧ SkAt 29 B vd9 vu9 F9 (d.take n) (nwL u l) w' ∧ Ch F w w' ∧ ∀ k, F9 k → F k ∨ w.heap.size ≤ k := by
  have r0 := row_new w (nov 0 none 0 0 none 0 0) 47
  have b0 := below_one w (.cells (nov 0 none 0 0 none 0 0) 47)
  have H := hid_of' (And.intro h (And.intro hn hl))
  clear h hn hl
  go_enter Tryd.func33, Tryd.ntmps33
  go_upto_region 1 with fail
  change Code.wp _ _ _ _ (w.alloc (.cells (nov 0 none 0 0 none 0 0) 47))
  generalize w.alloc (.cells (nov 0 none 0 0 none 0 0) 47) = X0 at r0 b0 ⊢
  generalize hnb5 : w.heap.size = nb5 at r0 ⊢
  have HP := hid_of' (refPeekUndo_yes (H.out.1.later b0) H.out.2.1 H.out.2.2)
  go_upto_region 2 with (first | (go_at_call 36; (with_reducible refine HP.out.mono ?_); rintro e w1 ⟨v0, rfl, hv0, hb1⟩; clear HP; obtain ⟨av, cv, hv9, _⟩ := Rw.form hv0.1; generalize List.length _ = nv at hv9; subst hv9; have HV := hid_of' (And.intro hv0 hb1); clear hv0 hb1) | (refine wpL_storeNo rfl _ _ rfl rfl rfl (row_new w1 _ _) ?_))
  have r7 := (row_new w1 (nov 0 none 0 0 none 0 0) 47).put (nov 0 none 0 0 none 0 0)
  have b7 := below_row (below_one w1 (.cells (nov 0 none 0 0 none 0 0) 47)) (Nat.le_refl _) (nov 0 none 0 0 none 0 0)
  change Code.wp _ _ _ _ ((w1.alloc (.cells (nov 0 none 0 0 none 0 0) 47)).setRow w1.heap.size (nov 0 none 0 0 none 0 0))
  generalize (w1.alloc (.cells (nov 0 none 0 0 none 0 0) 47)).setRow w1.heap.size (nov 0 none 0 0 none 0 0) = W2 at r7 b7 ⊢
  generalize hnb7 : w1.heap.size = nb7 at r7 ⊢
  have hb2 : Below w.heap.size w W2 := bgo b0 (bgo HV.out.2 b7)
  have r5 := r0.later (bgo HV.out.2 b7)
  obtain ⟨h, hn, hl⟩ := H.out
  replace h := h.later hb2
  obtain ⟨us, hO, hE⟩ := h.rd.open
  obtain ⟨ub, hO2, hE2⟩ := h.ru.open
  obtain ⟨ul, hul, hed⟩ := hE.at hl
  have hus : us.length = n + 1 := by rw [hE.1, hn]
  obtain ⟨g, cap, hvf, hcu, _⟩ := hO.at hul
  rw [hus] at hvf
  subst hvf
  have hncap : n + 1 ≤ cap ∧ cap ≤ 9223372036854775807 := by
    obtain ⟨a9, c9, e9, q9, q8⟩ := hO.1.form
    simp only [Value.slice.injEq] at e9
    obtain ⟨_, e8, rfl⟩ := e9
    unfold maxLen at q8
    omega
  obtain ⟨ab, cb, hvt⟩ := hO2.form
  have hubl : ub.length ≤ 64 := by rw [hE2.1]; exact h.lu
  generalize hnb : ub.length = nb at hvt
  subst hvt
  obtain ⟨au, cu, hul9, _⟩ := Rw.form hed.row
  generalize hnl : List.length l = nl at hul9
  subst hul9
  have hap : ¬ Value.ownBlock (.slice ab nb cb) = some g := fun q => h.apart g rfl q
  have hgB : ¬ g = B := h.dne (by decide) g rfl
  have hln := h.ld
  have kn : (n : Int) < (n : Int) + 1 := by omega
  have kn2 : n < n + 1 := by omega
  have kc1 : (n : Int) ≤ (cap : Int) := by omega
  have kc2 : n ≤ cap := by omega
  have kc3 : 0 ≤ (n : Int) := by omega
  have hw9 : -9223372036854775808 ≤ (n : Int) ∧ (n : Int) ≤ 9223372036854775807 := by omega
  have hs9 : (n : Int) + 1 - 1 = (n : Int) := by omega
  have e3 : wrap64 (n : Int) = (n : Int) := wrapIs hw9.1 hw9.2
  have e1 : wrap64 ((n : Int) + 1 - 1) = (n : Int) := (congrArg wrap64 hs9).trans e3
  clear hs9 hw9
  have HO2 := hid_of' (And.intro hO2 hubl)
  have HE := hid_of' hed
  have HR := hid_of' h.lies
  have HC := hid_of' hcu
  have HN7 := hid_of' r7
  have HN5 := hid_of' r5
  have c7 : W2.cell? ⟨nb7, 0, none⟩ = some (.int .i64 0) := r7.cellIs 0 rfl
  have cf : W2.cell? ⟨B, 0, none⟩ = some (.slice (some ⟨g, 0, none⟩) (n + 1) cap) := h.lies.cellIs 0 rfl
  have HK := hid_of' (And.intro h (And.intro hE (And.intro hE2 (And.intro hO (And.intro hus (And.intro hul (And.intro hap hgB)))))))
  have HB2 := hid_of' (And.intro hb2 b7)
  have HB0 := hid_of' (And.intro b0 r0.lt)
  clear h hn hl hO hE hO2 hE2 hul hed hus hubl hap hgB hln hnb hcu r7 r5 r0 b0 b7 hb2 hncap hnl
  go_upto_region 9 with fail
  (try rw [e3])
  clear c7 cf e1 e3
  refine wp_region_tail 13 (by kernel_rfl) (fun _ => none) (by kernel_rfl) (by kernel_rfl) (by decide) (fun i v x => match i with
    | 0 => v = .pointer (some ⟨B, 0, none⟩)
    | 1 => v = .pointer (some ⟨B, 0, none⟩)
    | 2 => v = .pointer (some ⟨B, 0, none⟩)
    | 3 => v = .pointer (some ⟨B, 1, none⟩)
    | 4 => v = .slice ab nb cb
    | 5 => v = .pointer (some ⟨B, 0, none⟩)
    | 6 => v = .pointer (some ⟨B, 0, none⟩)
    | 7 => v = .pointer (some ⟨B, 0, none⟩)
    | 8 => v = .slice (some ⟨g, 0, none⟩) (n + 1) cap
    | 9 => v = .int .i64 (n : Int)
    | 10 => v = .pointer (some ⟨g, n, none⟩)
    | 11 => v = .slice au nl cu
    | 12 => NwP W2.heap.size ub l v x
    | _ => True) (fun _ => false) (fun _ _ _ _ h => by cases h) ?_ ?_ ?_
  · intro i v x x' hR hb
    match i, hR with
    | 0, h => exact h
    | 1, h => exact h
    | 2, h => exact h
    | 3, h => exact h
    | 4, h => exact h
    | 5, h => exact h
    | 6, h => exact h
    | 7, h => exact h
    | 8, h => exact h
    | 9, h => exact h
    | 10, h => exact h
    | 11, h => exact h
    | 12, h => exact h.later hb
    | m + 13, h => exact h
  · intro i o hi ho q x vals hX hdep hoth
    have t0 : q.tmps[0]? = some (.pointer (some ⟨B, 0, none⟩)) := by rw [hoth 0 (by kernel_rfl)]; rfl
    have t9 : q.tmps[9]? = some (.int .i64 (n : Int)) := by rw [hoth 9 (by kernel_rfl)]; rfl
    match i, hi, ho with
    | 0, _, ho =>
      simp only [List.getElem?_cons_zero, Option.some.injEq] at ho
      subst ho
      unfold Oper.wp
      simp [execOp, go_sem, t0]
      exact came _ rfl (Below.refl _ _) rfl (fun h => absurd h (by decide))
    | 1, _, ho =>
      simp only [List.getElem?_cons_succ, List.getElem?_cons_zero, Option.some.injEq] at ho
      subst ho
      unfold Oper.wp
      simp [execOp, go_sem, t0]
      exact came _ rfl (Below.refl _ _) rfl (fun h => absurd h (by decide))
    | 2, _, ho =>
      simp only [List.getElem?_cons_succ, List.getElem?_cons_zero, Option.some.injEq] at ho
      subst ho
      obtain ⟨u1, e1⟩ := hdep ⟨1, .data⟩ (by simp) rfl _ 58 rfl rfl
      rw [show vals 1 = .pointer (some ⟨B, 0, none⟩) from e1] at u1
      unfold Oper.wp
      simp [execOp, go_sem, u1]
      exact came _ rfl (Below.refl _ _) rfl (fun h => absurd h (by decide))
    | 3, _, ho =>
      simp only [List.getElem?_cons_succ, List.getElem?_cons_zero, Option.some.injEq] at ho
      subst ho
      obtain ⟨u2, e2⟩ := hdep ⟨2, .data⟩ (by simp) rfl _ 59 rfl rfl
      rw [show vals 2 = .pointer (some ⟨B, 0, none⟩) from e2] at u2
      unfold Oper.wp
      simp [execOp, go_sem, u2]
      exact came _ rfl (Below.refl _ _) rfl (fun h => absurd h (by decide))
    | 4, _, ho =>
      simp only [List.getElem?_cons_succ, List.getElem?_cons_zero, Option.some.injEq] at ho
      subst ho
      obtain ⟨u3, e3⟩ := hdep ⟨3, .data⟩ (by simp) rfl _ 60 rfl rfl
      rw [show vals 3 = .pointer (some ⟨B, 1, none⟩) from e3] at u3
      have cc : x.cell? ⟨B, 1, none⟩ = some (.slice ab nb cb) := (HR.out.later hX).cellIs 1 rfl
      unfold Oper.wp
      simp [execOp, go_sem, u3, cc]
      exact came _ rfl (Below.refl _ _) rfl (fun h => absurd h (by decide))
    | 5, _, ho =>
      simp only [List.getElem?_cons_succ, List.getElem?_cons_zero, Option.some.injEq] at ho
      subst ho
      unfold Oper.wp
      simp [execOp, go_sem, t0]
      exact came _ rfl (Below.refl _ _) rfl (fun h => absurd h (by decide))
    | 6, _, ho =>
      simp only [List.getElem?_cons_succ, List.getElem?_cons_zero, Option.some.injEq] at ho
      subst ho
      obtain ⟨u5, e5⟩ := hdep ⟨5, .data⟩ (by simp) rfl _ 62 rfl rfl
      rw [show vals 5 = .pointer (some ⟨B, 0, none⟩) from e5] at u5
      unfold Oper.wp
      simp [execOp, go_sem, u5]
      exact came _ rfl (Below.refl _ _) rfl (fun h => absurd h (by decide))
    | 7, _, ho =>
      simp only [List.getElem?_cons_succ, List.getElem?_cons_zero, Option.some.injEq] at ho
      subst ho
      obtain ⟨u6, e6⟩ := hdep ⟨6, .data⟩ (by simp) rfl _ 63 rfl rfl
      rw [show vals 6 = .pointer (some ⟨B, 0, none⟩) from e6] at u6
      unfold Oper.wp
      simp [execOp, go_sem, u6]
      exact came _ rfl (Below.refl _ _) rfl (fun h => absurd h (by decide))
    | 8, _, ho =>
      simp only [List.getElem?_cons_succ, List.getElem?_cons_zero, Option.some.injEq] at ho
      subst ho
      obtain ⟨u7, e7⟩ := hdep ⟨7, .data⟩ (by simp) rfl _ 64 rfl rfl
      rw [show vals 7 = .pointer (some ⟨B, 0, none⟩) from e7] at u7
      have cc : x.cell? ⟨B, 0, none⟩ = some (.slice (some ⟨g, 0, none⟩) (n + 1) cap) := (HR.out.later hX).cellIs 0 rfl
      unfold Oper.wp
      simp [execOp, go_sem, u7, cc]
      exact came _ rfl (Below.refl _ _) rfl (fun h => absurd h (by decide))
    | 9, _, ho =>
      simp only [List.getElem?_cons_succ, List.getElem?_cons_zero, Option.some.injEq] at ho
      subst ho
      unfold Oper.wp
      simp [execOp, go_sem, t9]
      exact came _ rfl (Below.refl _ _) rfl (fun h => absurd h (by decide))
    | 10, _, ho =>
      simp only [List.getElem?_cons_succ, List.getElem?_cons_zero, Option.some.injEq] at ho
      subst ho
      obtain ⟨u8, e8⟩ := hdep ⟨8, .data⟩ (by simp) rfl _ 65 rfl rfl
      rw [show vals 8 = .slice (some ⟨g, 0, none⟩) (n + 1) cap from e8] at u8
      obtain ⟨u9, e9⟩ := hdep ⟨9, .data⟩ (by simp) rfl _ 66 rfl rfl
      rw [show vals 9 = .int .i64 (n : Int) from e9] at u9
      unfold Oper.wp
      simp [execOp, go_sem, u8, u9, kn]
      exact came _ rfl (Below.refl _ _) rfl (fun h => absurd h (by decide))
    | 11, _, ho =>
      simp only [List.getElem?_cons_succ, List.getElem?_cons_zero, Option.some.injEq] at ho
      subst ho
      obtain ⟨u10, e10⟩ := hdep ⟨10, .data⟩ (by simp) rfl _ 67 rfl rfl
      rw [show vals 10 = .pointer (some ⟨g, n, none⟩) from e10] at u10
      have cc : x.cell? ⟨g, n, none⟩ = some (.slice au nl cu) := by rw [hX.cell (World.block_lt_of_cell? _ _ HC.out)]; exact HC.out
      unfold Oper.wp
      simp [execOp, go_sem, u10, cc]
      exact came _ rfl (Below.refl _ _) rfl (fun h => absurd h (by decide))
    | 12, _, ho =>
      simp only [List.getElem?_cons_succ, List.getElem?_cons_zero, Option.some.injEq] at ho
      subst ho
      obtain ⟨u4, e4⟩ := hdep ⟨4, .data⟩ (by simp) rfl _ 61 rfl rfl
      rw [show vals 4 = .slice ab nb cb from e4] at u4
      obtain ⟨u11, e11⟩ := hdep ⟨11, .data⟩ (by simp) rfl _ 68 rfl rfl
      rw [show vals 11 = .slice au nl cu from e11] at u11
      unfold Oper.wp
      simp [go_sem, u4, u11]
      refine (push_ok (HO2.out.1.later hX) (HE.out.row.sl.later hX) HE.out.ne HE.out.le HO2.out.2).mono ?_
      rintro r x1 ⟨v1, rfl, hn1, hb1⟩
      exact came _ rfl hb1 (hn1.mono hX.size) (fun h => absurd h (by decide))
    | m + 13, hi, _ => exact absurd hi (by omega)
  · intro vals x hX hR _
    have e0 : vals 0 = .pointer (some ⟨B, 0, none⟩) := hR 0 (by decide)
    have hP : NwP W2.heap.size ub l (vals 12) x := hR 12 (by decide)
    obtain ⟨⟨y, q1, q2⟩, q3⟩ := hP
    obtain ⟨am, cm, hvm⟩ := q1.form
    generalize List.length _ = nm at hvm
    rw [hvm] at q1 q3
    obtain ⟨h, hE, hE2, hO, hus, hul, hap, hgB⟩ := HK.out
    have rX := h.lies.later hX
    have k1 := rX.cellIs 1 rfl
    have f1 := rX.froz 1
    have r1 := rX.setc 1 (.slice am nm cm)
    have k2 : (x.setCell ⟨B, 1, none⟩ (.slice am nm cm)).cell? ⟨B, 0, none⟩ = some (.slice (some ⟨g, 0, none⟩) (n + 1) cap) := r1.cellIs 0 rfl
    have f2 := r1.froz 0
    have r2 := r1.setc 0 (.slice (some ⟨g, 0, none⟩) n cap)
    have cB : Ch (fun k => k = B) x ((x.setCell ⟨B, 1, none⟩ (.slice am nm cm)).setCell ⟨B, 0, none⟩ (.slice (some ⟨g, 0, none⟩) n cap)) := ((Ch.refl (fun k => k = B) x).set (p := ⟨B, 1, none⟩) (.inl rfl) _).set (p := ⟨B, 0, none⟩) (.inl rfl) _
    have c2 : Ch (fun k => k = B) W2 ((x.setCell ⟨B, 1, none⟩ (.slice am nm cm)).setCell ⟨B, 0, none⟩ (.slice (some ⟨g, 0, none⟩) n cap)) := (Ch.of hX).go cB (fun s q => .inl q)
    have hBl : B < W2.heap.size := h.lies.lt
    have q1' := q1.ch cB (fun k hk e => by have e' : k = B := e; subst e'; have := q3 k hk; omega)
    have q2' := q2.ch cB (fun k hk e => by have e' : k = B := e; subst e'; omega)
    have hOx := (hO.first hus).ch c2 (fun k hk e => hgB (by cases hk; exact e))
    have hS : ∀ k, k = B → k < W2.heap.size → ¬ ∃ cur, W2.heap[k]? = some (.cells cur 66 (0, 0)) := fun k hk _ hc => by
      obtain ⟨cur, hc⟩ := hc
      exact typ_ne h.lies hc (by decide) hk
    have hE' := hE.apartOf c2 hS
    have hE2' := hE2.apartOf c2 hS
    have hltm := q1'.1.lt
    have hltl := hOx.1.lt g rfl
    have hlw : ∀ k, F k → k < w.heap.size := H.out.1.lt
    have HY : Hid (∃ vd9 vu9 F9, SkAt 29 B vd9 vu9 F9 (d.take n) (nwL u l) ((x.setCell ⟨B, 1, none⟩ (.slice am nm cm)).setCell ⟨B, 0, none⟩ (.slice (some ⟨g, 0, none⟩) n cap)) ∧ (∀ k, F9 k → F k ∨ W2.heap.size ≤ k)) := by
      refine ⟨.slice (some ⟨g, 0, none⟩) n cap, .slice am nm cm, fun k => (F k ∨ W2.heap.size ≤ k) ∧ k < ((x.setCell ⟨B, 1, none⟩ (.slice am nm cm)).setCell ⟨B, 0, none⟩ (.slice (some ⟨g, 0, none⟩) n cap)).heap.size, ⟨r2, ?_, ?_, ?_, ?_, ?_, ⟨.inl h.fB, r2.lt⟩, ?_, ?_, fun k hk => hk.2⟩, fun k hk => hk.1⟩
      · exact ERow.of hOx ((hE'.take n).mono (fun k hk hq => ⟨.inl hk, hq⟩))
      · exact ERow.of q1' (EsAt.nw (hE2'.mono (fun k hk hq => ⟨.inl hk, hq⟩)) (q2'.mono (fun k hk hq => ⟨.inr hk, hq⟩)))
      · intro k hk hk'
        cases hk
        have := q3 g hk'
        have := h.lt g (h.fd g rfl)
        omega
      · rw [List.length_take]; have := h.ld; omega
      · exact nwL_len u l h.lu
      · exact fun k hk => by cases hk; exact ⟨.inl (h.fd g rfl), hltl⟩
      · exact fun k hk => ⟨.inr (q3 k hk), hltm k hk⟩
    have HW := hid_of' (And.intro c2 (And.intro hBl (And.intro h.fB hlw)))
    clear q1 q2 q3 q1' q2' hE hE2 hE' hE2' hO hOx hS hlw hltm hltl r2 r1 rX hX hR c2 cB h HK HO2 hus hul hap hgB hBl
    simp only [List.drop, List.take, putAll, List.setIfInBounds_toArray, List.set_cons_succ, List.set_cons_zero, e0, hvm]
    clear e0 hvm
    go_upto_region 11 with fail
    generalize ((x.setCell ⟨B, 1, none⟩ (.slice am nm cm)).setCell ⟨B, 0, none⟩ (.slice (some ⟨g, 0, none⟩) n cap)) = Y9 at HY HW ⊢
    have hn7 : RowAt nb7 (nov 0 none 0 0 none 0 0) 47 Y9 := HN7.out.ch HW.out.1 (fun e => by have e' : nb7 = B := e; have := HW.out.2.2.2 B HW.out.2.2.1; have := HV.out.2.size; have := HB0.out.1.size; omega)
    have hn5 : RowAt nb5 (nov 0 none 0 0 none 0 0) 47 Y9 := HN5.out.ch HW.out.1 (fun e => by have e' : nb5 = B := e; have := HW.out.2.2.2 B HW.out.2.2.1; omega)
    have HN7 := hid_of' hn7
    clear hn7 k1 f1 k2 f2
    refine wp_region_tail 3 (by kernel_rfl) (fun _ => none) (by kernel_rfl) (by kernel_rfl) (by decide) (fun i v x => match i with
      | 0 => v = .slice av nv cv
      | 1 => v = .agg (nov 0 none 0 0 none 0 0)
      | 2 => v = .slice av nv cv
      | _ => True) (fun _ => false) (fun _ _ _ _ h => by cases h) ?_ ?_ ?_
    · intro i v x x' hR hb
      match i, hR with
      | 0, h => exact h
      | 1, h => exact h
      | 2, h => exact h
      | m + 3, h => exact h
    · intro i o hi ho q x vals hX hdep hoth
      have t6 : q.tmps[6]? = some (.slice av nv cv) := by rw [hoth 6 (by kernel_rfl)]; rfl
      have t7 : q.tmps[7]? = some (.pointer (some ⟨nb7, 0, none⟩)) := by rw [hoth 7 (by kernel_rfl)]; rfl
      match i, hi, ho with
      | 0, _, ho =>
        simp only [List.getElem?_cons_zero, Option.some.injEq] at ho
        subst ho
        unfold Oper.wp
        simp [execOp, go_sem, t6]
        exact came _ rfl (Below.refl _ _) rfl (fun h => absurd h (by decide))
      | 1, _, ho =>
        simp only [List.getElem?_cons_succ, List.getElem?_cons_zero, Option.some.injEq] at ho
        subst ho
        exact opw_loadNo _ rfl (by simp [Act.eval, t7]) (HN7.out.later hX) rfl (came _ rfl (Below.refl _ _) rfl (fun h => absurd h (by decide)))
      | 2, _, ho =>
        simp only [List.getElem?_cons_succ, List.getElem?_cons_zero, Option.some.injEq] at ho
        subst ho
        obtain ⟨u0, e0⟩ := hdep ⟨0, .data⟩ (by simp) rfl _ 81 rfl rfl
        rw [show vals 0 = .slice av nv cv from e0] at u0
        unfold Oper.wp
        simp [execOp, go_sem, u0]
        exact came _ rfl (Below.refl _ _) rfl (fun h => absurd h (by decide))
      | m + 3, hi, _ => exact absurd hi (by omega)
    · intro vals x hX hR _
      have e1 : vals 1 = .agg (nov 0 none 0 0 none 0 0) := hR 1 (by decide)
      have e2 : vals 2 = .slice av nv cv := hR 2 (by decide)
      have rx := hn5.later hX
      simp only [List.drop, List.take, putAll, List.setIfInBounds_toArray, List.set_cons_succ, List.set_cons_zero, e1, e2]
      clear e1 e2 hR
      go_wp2_with (refine wpL_storeNo rfl _ _ rfl rfl rfl rx ?_)
      have k4 := Ch.row (S := fun k => k = nb5) (Ch.refl _ x) (.inl rfl) (nov 0 none 0 0 none 0 0)
      obtain ⟨vd9, vu9, F9, z1, z2⟩ := HY.out
      obtain ⟨c2, hBl, hFB, hlw⟩ := HW.out
      have s2 := HB2.out.1.size
      have s7 := HV.out.2.size
      have l5 := HN5.out.lt
      have l6 := HB0.out.1.size
      have l7 := HB0.out.2
      have hnf : ∀ k, F9 k → ¬ k = nb5 := fun k hk e => by
        rcases z2 k hk with q | q
        · have := hlw k q; omega
        · omega
      have hv1 := HV.out.1
      have hlv : ∀ k, Value.ownBlock (.slice av nv cv) = some k → ¬ k = nb5 := fun k hk e => by have := hv1.2 k hk; omega
      have hvB : ∀ k, Value.ownBlock (.slice av nv cv) = some k → ¬ k = B := fun k hk e => by have := hv1.2 k hk; have := hlw B hFB; omega
      exact bodyPost_ret (v := .tuple #[.slice av nv cv, .agg (nov 0 none 0 0 none 0 0)]) (results_tNo (fn := Tryd.f33) (t := 4) (u := 5) rfl rfl (rx.put (nov 0 none 0 0 none 0 0)) rfl) rfl ⟨_, vd9, vu9, F9, rfl, ⟨Rw.ch (Rw.later (Rw.ch (Rw.later hv1.1 HB2.out.2) c2 hvB) hX) k4 hlv, fun k hk => by have := hv1.2 k hk; omega⟩, (z1.later hX).ch k4 hnf, (((Ch.of HB2.out.1).go c2 (fun s q => .inl (by have q' : s = B := q; subst q'; exact hFB))).later hX).go k4 (fun s q => .inr (by have q' : s = nb5 := q; omega)), fun k hk => (z2 k hk).imp id (fun q => by omega)⟩
set_option maxHeartbeats 8000000 in
theorem refRedo_yes {B n : Nat} {vd vu : Value} {F : Nat → Prop} {d u : List (List Xg)} {l : List Xg} {w : World} (h : SkAt 29 B vd vu F d u w) (hn : u.length = n + 1) (hl : u[n]? = some l) :
    Calls Tryd.prog 33 #[.pointer (some ⟨B, 0, none⟩), .bool true] w fun e w' => ∃ v vd9 vu9 F9, e = .returned (.tuple #[v, .agg (nov 0 none 0 0 none 0 0)]) ∧ NwX w.heap.size v (agL l) w' ∧ SkAt 29 B vd9 vu9 F9 (nwL d l) (u.take n) w' ∧ Ch F w w' ∧ ∀ k, F9 k → F k ∨ w.heap.size ≤ k := by
  have r0 := row_new w (nov 0 none 0 0 none 0 0) 47
  have b0 := below_one w (.cells (nov 0 none 0 0 none 0 0) 47)
  have H := hid_of' (And.intro h (And.intro hn hl))
  clear h hn hl
  go_enter Tryd.func33, Tryd.ntmps33
  go_upto_region 1 with fail
  change Code.wp _ _ _ _ (w.alloc (.cells (nov 0 none 0 0 none 0 0) 47))
  generalize w.alloc (.cells (nov 0 none 0 0 none 0 0) 47) = X0 at r0 b0 ⊢
  generalize hnb5 : w.heap.size = nb5 at r0 ⊢
  have HP := hid_of' (refPeekRedo_yes (H.out.1.later b0) H.out.2.1 H.out.2.2)
  go_upto_region 2 with (first | (go_at_call 36; (with_reducible refine HP.out.mono ?_); rintro e w1 ⟨v0, rfl, hv0, hb1⟩; clear HP; obtain ⟨av, cv, hv9, _⟩ := Rw.form hv0.1; generalize List.length _ = nv at hv9; subst hv9; have HV := hid_of' (And.intro hv0 hb1); clear hv0 hb1) | (refine wpL_storeNo rfl _ _ rfl rfl rfl (row_new w1 _ _) ?_))
  have r7 := (row_new w1 (nov 0 none 0 0 none 0 0) 47).put (nov 0 none 0 0 none 0 0)
  have b7 := below_row (below_one w1 (.cells (nov 0 none 0 0 none 0 0) 47)) (Nat.le_refl _) (nov 0 none 0 0 none 0 0)
  change Code.wp _ _ _ _ ((w1.alloc (.cells (nov 0 none 0 0 none 0 0) 47)).setRow w1.heap.size (nov 0 none 0 0 none 0 0))
  generalize (w1.alloc (.cells (nov 0 none 0 0 none 0 0) 47)).setRow w1.heap.size (nov 0 none 0 0 none 0 0) = W2 at r7 b7 ⊢
  generalize hnb7 : w1.heap.size = nb7 at r7 ⊢
  have hb2 : Below w.heap.size w W2 := bgo b0 (bgo HV.out.2 b7)
  have r5 := r0.later (bgo HV.out.2 b7)
  obtain ⟨h, hn, hl⟩ := H.out
  replace h := h.later hb2
  obtain ⟨us, hO, hE⟩ := h.ru.open
  obtain ⟨ub, hO2, hE2⟩ := h.rd.open
  obtain ⟨ul, hul, hed⟩ := hE.at hl
  have hus : us.length = n + 1 := by rw [hE.1, hn]
  obtain ⟨g, cap, hvf, hcu, _⟩ := hO.at hul
  rw [hus] at hvf
  subst hvf
  have hncap : n + 1 ≤ cap ∧ cap ≤ 9223372036854775807 := by
    obtain ⟨a9, c9, e9, q9, q8⟩ := hO.1.form
    simp only [Value.slice.injEq] at e9
    obtain ⟨_, e8, rfl⟩ := e9
    unfold maxLen at q8
    omega
  obtain ⟨ab, cb, hvt⟩ := hO2.form
  have hubl : ub.length ≤ 64 := by rw [hE2.1]; exact h.ld
  generalize hnb : ub.length = nb at hvt
  subst hvt
  obtain ⟨au, cu, hul9, _⟩ := Rw.form hed.row
  generalize hnl : List.length l = nl at hul9
  subst hul9
  have hap : ¬ Value.ownBlock (.slice ab nb cb) = some g := fun q => h.apart g q rfl
  have hgB : ¬ g = B := h.une (by decide) g rfl
  have hln := h.lu
  have kn : (n : Int) < (n : Int) + 1 := by omega
  have kn2 : n < n + 1 := by omega
  have kc1 : (n : Int) ≤ (cap : Int) := by omega
  have kc2 : n ≤ cap := by omega
  have kc3 : 0 ≤ (n : Int) := by omega
  have hw9 : -9223372036854775808 ≤ (n : Int) ∧ (n : Int) ≤ 9223372036854775807 := by omega
  have hs9 : (n : Int) + 1 - 1 = (n : Int) := by omega
  have e3 : wrap64 (n : Int) = (n : Int) := wrapIs hw9.1 hw9.2
  have e1 : wrap64 ((n : Int) + 1 - 1) = (n : Int) := (congrArg wrap64 hs9).trans e3
  clear hs9 hw9
  have HO2 := hid_of' (And.intro hO2 hubl)
  have HE := hid_of' hed
  have HR := hid_of' h.lies
  have HC := hid_of' hcu
  have HN7 := hid_of' r7
  have HN5 := hid_of' r5
  have c7 : W2.cell? ⟨nb7, 0, none⟩ = some (.int .i64 0) := r7.cellIs 0 rfl
  have cf : W2.cell? ⟨B, 1, none⟩ = some (.slice (some ⟨g, 0, none⟩) (n + 1) cap) := h.lies.cellIs 1 rfl
  have HK := hid_of' (And.intro h (And.intro hE (And.intro hE2 (And.intro hO (And.intro hus (And.intro hul (And.intro hap hgB)))))))
  have HB2 := hid_of' (And.intro hb2 b7)
  have HB0 := hid_of' (And.intro b0 r0.lt)
  clear h hn hl hO hE hO2 hE2 hul hed hus hubl hap hgB hln hnb hcu r7 r5 r0 b0 b7 hb2 hncap hnl
  go_upto_region 6 with fail
  (try rw [e3])
  clear c7 cf e1 e3
  refine wp_region_tail 13 (by kernel_rfl) (fun _ => none) (by kernel_rfl) (by kernel_rfl) (by decide) (fun i v x => match i with
    | 0 => v = .pointer (some ⟨B, 0, none⟩)
    | 1 => v = .pointer (some ⟨B, 0, none⟩)
    | 2 => v = .pointer (some ⟨B, 0, none⟩)
    | 3 => v = .pointer (some ⟨B, 0, none⟩)
    | 4 => v = .slice ab nb cb
    | 5 => v = .pointer (some ⟨B, 0, none⟩)
    | 6 => v = .pointer (some ⟨B, 0, none⟩)
    | 7 => v = .pointer (some ⟨B, 1, none⟩)
    | 8 => v = .slice (some ⟨g, 0, none⟩) (n + 1) cap
    | 9 => v = .int .i64 (n : Int)
    | 10 => v = .pointer (some ⟨g, n, none⟩)
    | 11 => v = .slice au nl cu
    | 12 => NwP W2.heap.size ub l v x
    | _ => True) (fun _ => false) (fun _ _ _ _ h => by cases h) ?_ ?_ ?_
  · intro i v x x' hR hb
    match i, hR with
    | 0, h => exact h
    | 1, h => exact h
    | 2, h => exact h
    | 3, h => exact h
    | 4, h => exact h
    | 5, h => exact h
    | 6, h => exact h
    | 7, h => exact h
    | 8, h => exact h
    | 9, h => exact h
    | 10, h => exact h
    | 11, h => exact h
    | 12, h => exact h.later hb
    | m + 13, h => exact h
  · intro i o hi ho q x vals hX hdep hoth
    have t0 : q.tmps[0]? = some (.pointer (some ⟨B, 0, none⟩)) := by rw [hoth 0 (by kernel_rfl)]; rfl
    have t8 : q.tmps[8]? = some (.int .i64 (n : Int)) := by rw [hoth 8 (by kernel_rfl)]; rfl
    match i, hi, ho with
    | 0, _, ho =>
      simp only [List.getElem?_cons_zero, Option.some.injEq] at ho
      subst ho
      unfold Oper.wp
      simp [execOp, go_sem, t0]
      exact came _ rfl (Below.refl _ _) rfl (fun h => absurd h (by decide))
    | 1, _, ho =>
      simp only [List.getElem?_cons_succ, List.getElem?_cons_zero, Option.some.injEq] at ho
      subst ho
      unfold Oper.wp
      simp [execOp, go_sem, t0]
      exact came _ rfl (Below.refl _ _) rfl (fun h => absurd h (by decide))
    | 2, _, ho =>
      simp only [List.getElem?_cons_succ, List.getElem?_cons_zero, Option.some.injEq] at ho
      subst ho
      obtain ⟨u1, e1⟩ := hdep ⟨1, .data⟩ (by simp) rfl _ 28 rfl rfl
      rw [show vals 1 = .pointer (some ⟨B, 0, none⟩) from e1] at u1
      unfold Oper.wp
      simp [execOp, go_sem, u1]
      exact came _ rfl (Below.refl _ _) rfl (fun h => absurd h (by decide))
    | 3, _, ho =>
      simp only [List.getElem?_cons_succ, List.getElem?_cons_zero, Option.some.injEq] at ho
      subst ho
      obtain ⟨u2, e2⟩ := hdep ⟨2, .data⟩ (by simp) rfl _ 29 rfl rfl
      rw [show vals 2 = .pointer (some ⟨B, 0, none⟩) from e2] at u2
      unfold Oper.wp
      simp [execOp, go_sem, u2]
      exact came _ rfl (Below.refl _ _) rfl (fun h => absurd h (by decide))
    | 4, _, ho =>
      simp only [List.getElem?_cons_succ, List.getElem?_cons_zero, Option.some.injEq] at ho
      subst ho
      obtain ⟨u3, e3⟩ := hdep ⟨3, .data⟩ (by simp) rfl _ 30 rfl rfl
      rw [show vals 3 = .pointer (some ⟨B, 0, none⟩) from e3] at u3
      have cc : x.cell? ⟨B, 0, none⟩ = some (.slice ab nb cb) := (HR.out.later hX).cellIs 0 rfl
      unfold Oper.wp
      simp [execOp, go_sem, u3, cc]
      exact came _ rfl (Below.refl _ _) rfl (fun h => absurd h (by decide))
    | 5, _, ho =>
      simp only [List.getElem?_cons_succ, List.getElem?_cons_zero, Option.some.injEq] at ho
      subst ho
      unfold Oper.wp
      simp [execOp, go_sem, t0]
      exact came _ rfl (Below.refl _ _) rfl (fun h => absurd h (by decide))
    | 6, _, ho =>
      simp only [List.getElem?_cons_succ, List.getElem?_cons_zero, Option.some.injEq] at ho
      subst ho
      obtain ⟨u5, e5⟩ := hdep ⟨5, .data⟩ (by simp) rfl _ 32 rfl rfl
      rw [show vals 5 = .pointer (some ⟨B, 0, none⟩) from e5] at u5
      unfold Oper.wp
      simp [execOp, go_sem, u5]
      exact came _ rfl (Below.refl _ _) rfl (fun h => absurd h (by decide))
    | 7, _, ho =>
      simp only [List.getElem?_cons_succ, List.getElem?_cons_zero, Option.some.injEq] at ho
      subst ho
      obtain ⟨u6, e6⟩ := hdep ⟨6, .data⟩ (by simp) rfl _ 33 rfl rfl
      rw [show vals 6 = .pointer (some ⟨B, 0, none⟩) from e6] at u6
      unfold Oper.wp
      simp [execOp, go_sem, u6]
      exact came _ rfl (Below.refl _ _) rfl (fun h => absurd h (by decide))
    | 8, _, ho =>
      simp only [List.getElem?_cons_succ, List.getElem?_cons_zero, Option.some.injEq] at ho
      subst ho
      obtain ⟨u7, e7⟩ := hdep ⟨7, .data⟩ (by simp) rfl _ 34 rfl rfl
      rw [show vals 7 = .pointer (some ⟨B, 1, none⟩) from e7] at u7
      have cc : x.cell? ⟨B, 1, none⟩ = some (.slice (some ⟨g, 0, none⟩) (n + 1) cap) := (HR.out.later hX).cellIs 1 rfl
      unfold Oper.wp
      simp [execOp, go_sem, u7, cc]
      exact came _ rfl (Below.refl _ _) rfl (fun h => absurd h (by decide))
    | 9, _, ho =>
      simp only [List.getElem?_cons_succ, List.getElem?_cons_zero, Option.some.injEq] at ho
      subst ho
      unfold Oper.wp
      simp [execOp, go_sem, t8]
      exact came _ rfl (Below.refl _ _) rfl (fun h => absurd h (by decide))
    | 10, _, ho =>
      simp only [List.getElem?_cons_succ, List.getElem?_cons_zero, Option.some.injEq] at ho
      subst ho
      obtain ⟨u8, e8⟩ := hdep ⟨8, .data⟩ (by simp) rfl _ 35 rfl rfl
      rw [show vals 8 = .slice (some ⟨g, 0, none⟩) (n + 1) cap from e8] at u8
      obtain ⟨u9, e9⟩ := hdep ⟨9, .data⟩ (by simp) rfl _ 36 rfl rfl
      rw [show vals 9 = .int .i64 (n : Int) from e9] at u9
      unfold Oper.wp
      simp [execOp, go_sem, u8, u9, kn]
      exact came _ rfl (Below.refl _ _) rfl (fun h => absurd h (by decide))
    | 11, _, ho =>
      simp only [List.getElem?_cons_succ, List.getElem?_cons_zero, Option.some.injEq] at ho
      subst ho
      obtain ⟨u10, e10⟩ := hdep ⟨10, .data⟩ (by simp) rfl _ 37 rfl rfl
      rw [show vals 10 = .pointer (some ⟨g, n, none⟩) from e10] at u10
      have cc : x.cell? ⟨g, n, none⟩ = some (.slice au nl cu) := by rw [hX.cell (World.block_lt_of_cell? _ _ HC.out)]; exact HC.out
      unfold Oper.wp
      simp [execOp, go_sem, u10, cc]
      exact came _ rfl (Below.refl _ _) rfl (fun h => absurd h (by decide))
    | 12, _, ho =>
      simp only [List.getElem?_cons_succ, List.getElem?_cons_zero, Option.some.injEq] at ho
      subst ho
      obtain ⟨u4, e4⟩ := hdep ⟨4, .data⟩ (by simp) rfl _ 31 rfl rfl
      rw [show vals 4 = .slice ab nb cb from e4] at u4
      obtain ⟨u11, e11⟩ := hdep ⟨11, .data⟩ (by simp) rfl _ 38 rfl rfl
      rw [show vals 11 = .slice au nl cu from e11] at u11
      unfold Oper.wp
      simp [go_sem, u4, u11]
      refine (push_ok (HO2.out.1.later hX) (HE.out.row.sl.later hX) HE.out.ne HE.out.le HO2.out.2).mono ?_
      rintro r x1 ⟨v1, rfl, hn1, hb1⟩
      exact came _ rfl hb1 (hn1.mono hX.size) (fun h => absurd h (by decide))
    | m + 13, hi, _ => exact absurd hi (by omega)
  · intro vals x hX hR _
    have e0 : vals 0 = .pointer (some ⟨B, 0, none⟩) := hR 0 (by decide)
    have hP : NwP W2.heap.size ub l (vals 12) x := hR 12 (by decide)
    obtain ⟨⟨y, q1, q2⟩, q3⟩ := hP
    obtain ⟨am, cm, hvm⟩ := q1.form
    generalize List.length _ = nm at hvm
    rw [hvm] at q1 q3
    obtain ⟨h, hE, hE2, hO, hus, hul, hap, hgB⟩ := HK.out
    have rX := h.lies.later hX
    have k1 := rX.cellIs 0 rfl
    have f1 := rX.froz 0
    have r1 := rX.setc 0 (.slice am nm cm)
    have k2 : (x.setCell ⟨B, 0, none⟩ (.slice am nm cm)).cell? ⟨B, 1, none⟩ = some (.slice (some ⟨g, 0, none⟩) (n + 1) cap) := r1.cellIs 1 rfl
    have f2 := r1.froz 1
    have r2 := r1.setc 1 (.slice (some ⟨g, 0, none⟩) n cap)
    have cB : Ch (fun k => k = B) x ((x.setCell ⟨B, 0, none⟩ (.slice am nm cm)).setCell ⟨B, 1, none⟩ (.slice (some ⟨g, 0, none⟩) n cap)) := ((Ch.refl (fun k => k = B) x).set (p := ⟨B, 0, none⟩) (.inl rfl) _).set (p := ⟨B, 1, none⟩) (.inl rfl) _
    have c2 : Ch (fun k => k = B) W2 ((x.setCell ⟨B, 0, none⟩ (.slice am nm cm)).setCell ⟨B, 1, none⟩ (.slice (some ⟨g, 0, none⟩) n cap)) := (Ch.of hX).go cB (fun s q => .inl q)
    have hBl : B < W2.heap.size := h.lies.lt
    have q1' := q1.ch cB (fun k hk e => by have e' : k = B := e; subst e'; have := q3 k hk; omega)
    have q2' := q2.ch cB (fun k hk e => by have e' : k = B := e; subst e'; omega)
    have hOx := (hO.first hus).ch c2 (fun k hk e => hgB (by cases hk; exact e))
    have hS : ∀ k, k = B → k < W2.heap.size → ¬ ∃ cur, W2.heap[k]? = some (.cells cur 66 (0, 0)) := fun k hk _ hc => by
      obtain ⟨cur, hc⟩ := hc
      exact typ_ne h.lies hc (by decide) hk
    have hE' := hE.apartOf c2 hS
    have hE2' := hE2.apartOf c2 hS
    have hltm := q1'.1.lt
    have hltl := hOx.1.lt g rfl
    have hlw : ∀ k, F k → k < w.heap.size := H.out.1.lt
    have HY : Hid (∃ vd9 vu9 F9, SkAt 29 B vd9 vu9 F9 (nwL d l) (u.take n) ((x.setCell ⟨B, 0, none⟩ (.slice am nm cm)).setCell ⟨B, 1, none⟩ (.slice (some ⟨g, 0, none⟩) n cap)) ∧ (∀ k, F9 k → F k ∨ W2.heap.size ≤ k)) := by
      refine ⟨.slice am nm cm, .slice (some ⟨g, 0, none⟩) n cap, fun k => (F k ∨ W2.heap.size ≤ k) ∧ k < ((x.setCell ⟨B, 0, none⟩ (.slice am nm cm)).setCell ⟨B, 1, none⟩ (.slice (some ⟨g, 0, none⟩) n cap)).heap.size, ⟨r2, ?_, ?_, ?_, ?_, ?_, ⟨.inl h.fB, r2.lt⟩, ?_, ?_, fun k hk => hk.2⟩, fun k hk => hk.1⟩
      · exact ERow.of q1' (EsAt.nw (hE2'.mono (fun k hk hq => ⟨.inl hk, hq⟩)) (q2'.mono (fun k hk hq => ⟨.inr hk, hq⟩)))
      · exact ERow.of hOx ((hE'.take n).mono (fun k hk hq => ⟨.inl hk, hq⟩))
      · intro k hk hk'
        cases hk'
        have := q3 g hk
        have := h.lt g (h.fu g rfl)
        omega
      · exact nwL_len d l h.ld
      · rw [List.length_take]; have := h.lu; omega
      · exact fun k hk => ⟨.inr (q3 k hk), hltm k hk⟩
      · exact fun k hk => by cases hk; exact ⟨.inl (h.fu g rfl), hltl⟩
    have HW := hid_of' (And.intro c2 (And.intro hBl (And.intro h.fB hlw)))
    clear q1 q2 q3 q1' q2' hE hE2 hE' hE2' hO hOx hS hlw hltm hltl r2 r1 rX hX hR c2 cB h HK HO2 hus hul hap hgB hBl
    simp only [List.drop, List.take, putAll, List.setIfInBounds_toArray, List.set_cons_succ, List.set_cons_zero, e0, hvm]
    clear e0 hvm
    go_upto_region 11 with fail
    generalize ((x.setCell ⟨B, 0, none⟩ (.slice am nm cm)).setCell ⟨B, 1, none⟩ (.slice (some ⟨g, 0, none⟩) n cap)) = Y9 at HY HW ⊢
    have hn7 : RowAt nb7 (nov 0 none 0 0 none 0 0) 47 Y9 := HN7.out.ch HW.out.1 (fun e => by have e' : nb7 = B := e; have := HW.out.2.2.2 B HW.out.2.2.1; have := HV.out.2.size; have := HB0.out.1.size; omega)
    have hn5 : RowAt nb5 (nov 0 none 0 0 none 0 0) 47 Y9 := HN5.out.ch HW.out.1 (fun e => by have e' : nb5 = B := e; have := HW.out.2.2.2 B HW.out.2.2.1; omega)
    have HN7 := hid_of' hn7
    clear hn7 k1 f1 k2 f2
    refine wp_region_tail 3 (by kernel_rfl) (fun _ => none) (by kernel_rfl) (by kernel_rfl) (by decide) (fun i v x => match i with
      | 0 => v = .slice av nv cv
      | 1 => v = .agg (nov 0 none 0 0 none 0 0)
      | 2 => v = .slice av nv cv
      | _ => True) (fun _ => false) (fun _ _ _ _ h => by cases h) ?_ ?_ ?_
    · intro i v x x' hR hb
      match i, hR with
      | 0, h => exact h
      | 1, h => exact h
      | 2, h => exact h
      | m + 3, h => exact h
    · intro i o hi ho q x vals hX hdep hoth
      have t6 : q.tmps[6]? = some (.slice av nv cv) := by rw [hoth 6 (by kernel_rfl)]; rfl
      have t7 : q.tmps[7]? = some (.pointer (some ⟨nb7, 0, none⟩)) := by rw [hoth 7 (by kernel_rfl)]; rfl
      match i, hi, ho with
      | 0, _, ho =>
        simp only [List.getElem?_cons_zero, Option.some.injEq] at ho
        subst ho
        unfold Oper.wp
        simp [execOp, go_sem, t6]
        exact came _ rfl (Below.refl _ _) rfl (fun h => absurd h (by decide))
      | 1, _, ho =>
        simp only [List.getElem?_cons_succ, List.getElem?_cons_zero, Option.some.injEq] at ho
        subst ho
        exact opw_loadNo _ rfl (by simp [Act.eval, t7]) (HN7.out.later hX) rfl (came _ rfl (Below.refl _ _) rfl (fun h => absurd h (by decide)))
      | 2, _, ho =>
        simp only [List.getElem?_cons_succ, List.getElem?_cons_zero, Option.some.injEq] at ho
        subst ho
        obtain ⟨u0, e0⟩ := hdep ⟨0, .data⟩ (by simp) rfl _ 81 rfl rfl
        rw [show vals 0 = .slice av nv cv from e0] at u0
        unfold Oper.wp
        simp [execOp, go_sem, u0]
        exact came _ rfl (Below.refl _ _) rfl (fun h => absurd h (by decide))
      | m + 3, hi, _ => exact absurd hi (by omega)
    · intro vals x hX hR _
      have e1 : vals 1 = .agg (nov 0 none 0 0 none 0 0) := hR 1 (by decide)
      have e2 : vals 2 = .slice av nv cv := hR 2 (by decide)
      have rx := hn5.later hX
      simp only [List.drop, List.take, putAll, List.setIfInBounds_toArray, List.set_cons_succ, List.set_cons_zero, e1, e2]
      clear e1 e2 hR
      go_wp2_with (refine wpL_storeNo rfl _ _ rfl rfl rfl rx ?_)
      have k4 := Ch.row (S := fun k => k = nb5) (Ch.refl _ x) (.inl rfl) (nov 0 none 0 0 none 0 0)
      obtain ⟨vd9, vu9, F9, z1, z2⟩ := HY.out
      obtain ⟨c2, hBl, hFB, hlw⟩ := HW.out
      have s2 := HB2.out.1.size
      have s7 := HV.out.2.size
      have l5 := HN5.out.lt
      have l6 := HB0.out.1.size
      have l7 := HB0.out.2
      have hnf : ∀ k, F9 k → ¬ k = nb5 := fun k hk e => by
        rcases z2 k hk with q | q
        · have := hlw k q; omega
        · omega
      have hv1 := HV.out.1
      have hlv : ∀ k, Value.ownBlock (.slice av nv cv) = some k → ¬ k = nb5 := fun k hk e => by have := hv1.2 k hk; omega
      have hvB : ∀ k, Value.ownBlock (.slice av nv cv) = some k → ¬ k = B := fun k hk e => by have := hv1.2 k hk; have := hlw B hFB; omega
      exact bodyPost_ret (v := .tuple #[.slice av nv cv, .agg (nov 0 none 0 0 none 0 0)]) (results_tNo (fn := Tryd.f33) (t := 4) (u := 5) rfl rfl (rx.put (nov 0 none 0 0 none 0 0)) rfl) rfl ⟨_, vd9, vu9, F9, rfl, ⟨Rw.ch (Rw.later (Rw.ch (Rw.later hv1.1 HB2.out.2) c2 hvB) hX) k4 hlv, fun k hk => by have := hv1.2 k hk; omega⟩, (z1.later hX).ch k4 hnf, (((Ch.of HB2.out.1).go c2 (fun s q => .inl (by have q' : s = B := q; subst q'; exact hFB))).later hX).go k4 (fun s q => .inr (by have q' : s = nb5 := q; omega)), fun k hk => (z2 k hk).imp id (fun q => by omega)⟩
end Go.Proofs.YtgkbgojgpomcdaaDoor
