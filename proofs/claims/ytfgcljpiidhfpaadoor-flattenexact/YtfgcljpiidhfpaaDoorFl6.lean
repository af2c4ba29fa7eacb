
/-
  Package flatten: Rounds, become, reached; laws for new blocks.
-/
import Derived.Test.YtfgcljpiidhfpaaDoorFl5
namespace Go.Proofs.YtfgcljpiidhfpaaDoor
open Go.RowKit
set_option maxRecDepth 100000

section
variable {P : Program}
theorem run_alloc_z {ty : TypeId} {z : Array Value} (hz : (P.info? ty).bind (·.zero) = some (.agg z)) (w : World) : (Instr.alloc ty true (.tuple #[])).run P w = .ok (.pointer (some ⟨w.heap.size, 0, none⟩)) (w.alloc (.cells z ty)) := by
  cases hq : P.info? ty with
  | none => simp [hq] at hz
  | some i =>
    have hi : i.zero = some (.agg z) := by simpa [hq] using hz
    simp [Instr.alloc, zeroValue, typeInfo, hq, hi, newVar, newRow, Value.cells, Sem.run_bind]
theorem wpL_alloc {ops : Array Oper} {rest : List Oper} {o : Oper} {a : Act} {w : World} {Q : Exit → Act → World → Prop} (hgd : o.guard = none) (ty : TypeId) (ho : o.op = .alloc ty) {z : Array Value} (hz : (P.info? ty).bind (·.zero) = some (.agg z))
    (k : wpList P ops Q rest (a.put o.dst (.pointer (some ⟨w.heap.size, 0, none⟩))) (w.alloc (.cells z ty))) : wpList P ops Q (o :: rest) a w :=
  wpList_plain hgd fun _ hK => by
    unfold Oper.wp execOp
    simp only [ho, Sem.run_bind, run_alloc_z hz, Result.andThen_ok]
    exact hK _ _ k
theorem wpL_bld {ops : Array Oper} {rest : List Oper} {o : Oper} {a : Act} {w : World} {Q : Exit → Act → World → Prop} (hgd : o.guard = none) (t : TypeId) (parts : Array (Nat × Operand)) (ho : o.op = .build t parts) (cells : Array Value)
    (hc : P.built t (parts.map fun (i, x) => (i, a.eval x)).toList = some cells)
    (k : wpList P ops Q rest (a.put o.dst (.agg cells)) w) : wpList P ops Q (o :: rest) a w :=
  wpList_plain hgd fun _ hK => by
    unfold Oper.wp execOp
    simp only [ho, Sem.run_bind, run_build w t _ cells hc, Result.andThen_ok]
    exact hK _ _ k
theorem opw_ld {K : Act → World → Prop} {o : Oper} {a : Act} {w : World} {Q : Exit → Act → World → Prop} (ty : TypeId) (x : Operand) (ho : o.op = .load ty x) {b off : Nat} (hx : a.eval x = .pointer (some ⟨b, off, none⟩)) {cs : Array Value} (h : CsIn b off cs w)
    {d : TypeDesc} (hu : P.underlying ty = some d) (hd : (match d with | .struct _ | .array _ _ => true | _ => false) = true) (hi : (P.info? ty).map (·.size) = some cs.size)
    (k : K (a.put o.dst (.agg cs)) w) : o.wp P a w K Q := by
  unfold Oper.wp execOp
  simp only [ho, hx, Instr.loadAt, Instr.sureAddr, Sem.run_bind, Sem.run_pure, Result.andThen_ok, run_loadVar_in h hu hd hi]
  exact k
/-- A whole block is written. -/
theorem wpL_stRow {ops : Array Oper} {rest : List Oper} {o : Oper} {a : Act} {w : World} {Q : Exit → Act → World → Prop} (hgd : o.guard = none) (ty : TypeId) (x y : Operand) (ho : o.op = .store ty x y) {b : Nat} (hx : a.eval x = .pointer (some ⟨b, 0, none⟩)) {cs : Array Value} (hy : a.eval y = .agg cs) {t : TypeId} {z : Array Value} (h : RowAt b z t w)
    (hi : (P.info? ty).map (·.size) = some cs.size) (hz : z.size = cs.size) (h1 : cs.all (·.oneCell') = true)
    (k : wpList P ops Q rest (a.put o.dst undef) (w.setRow b cs)) : wpList P ops Q (o :: rest) a w :=
  wpList_store_row hgd ty x y ho b cs hx hy t z h hi hz h1 k
end
theorem opRnd {K : Act → World → Prop} {o : Oper} {a : Act} {w : World} {Q : Exit → Act → World → Prop} {r : Rnd} (hr : r.Ok) (x : Operand) (ho : o.op = .load 44 x) {b off : Nat} (hx : a.eval x = .pointer (some ⟨b, off, none⟩)) (h : CsIn b off (cv (rc r)) w) (k : K (a.put o.dst (.agg (cv (rc r)))) w) : o.wp Tryd.prog a w K Q :=
  opw_ld _ x ho hx h Tryd.underlying44 rfl (rnd_size hr) k
theorem opRnds {K : Act → World → Prop} {o : Oper} {a : Act} {w : World} {Q : Exit → Act → World → Prop} {l : List Rnd} (hr : OkL l) (x : Operand) (ho : o.op = .load 46 x) {b off : Nat} (hx : a.eval x = .pointer (some ⟨b, off, none⟩)) (h : CsIn b off (cv (rs l)) w) (k : K (a.put o.dst (.agg (cv (rs l)))) w) : o.wp Tryd.prog a w K Q :=
  opw_ld _ x ho hx h Tryd.underlying46 rfl (rnds_size hr) k
theorem opCk {K : Act → World → Prop} {o : Oper} {a : Act} {w : World} {Q : Exit → Act → World → Prop} {y : List Int} (hy : y.length = 8) (x : Operand) (ho : o.op = .load 42 x) {b off : Nat} (hx : a.eval x = .pointer (some ⟨b, off, none⟩)) (h : CsIn b off (cv y) w) (k : K (a.put o.dst (.agg (cv y))) w) : o.wp Tryd.prog a w K Q :=
  opw_ld _ x ho hx h Tryd.underlying42 rfl (ck_size hy) k
theorem zRnd : (Tryd.prog.info? 44).bind (·.zero) = some (.agg (cv (rc rnd0))) := by kernel_rfl
theorem zRnds : (Tryd.prog.info? 46).bind (·.zero) = some (.agg (cv (rs rds0))) := by kernel_rfl
theorem bldRnds : Tryd.prog.built 46 [] = some (cv (rs rds0)) := by kernel_rfl
theorem bldDesk (n s : Int) : Tryd.prog.built 75 [(0, .int .i64 n), (1, .int .i64 s)] = some (cv (dk n s rds0)) := by kernel_rfl
theorem bldRnd8 (n a0 a1 a2 a3 a4 a5 a6 a7 : Int) : Tryd.prog.built 44 [(0, .int .i64 n), (1, .agg (cv [a0, a1, a2, a3, a4, a5, a6, a7]))] = some (cv (rc ⟨n, [a0, a1, a2, a3, a4, a5, a6, a7], z8, 0⟩)) := by kernel_rfl
theorem bldRnd (n : Int) {c : List Int} (h : c.length = 8) : Tryd.prog.built 44 [(0, .int .i64 n), (1, .agg (cv c))] = some (cv (rc ⟨n, c, z8, 0⟩)) := by
  match c, h with
  | [a0, a1, a2, a3, a4, a5, a6, a7], _ => exact bldRnd8 n a0 a1 a2 a3 a4 a5 a6 a7
theorem RowAt.rowI {b : Nat} {cs : Array Value} {t : TypeId} {w : World} (h : RowAt b cs t w) (y : Array Value) : RowAt b y t (w.setRow b y) := setRow_heap w b _ _ _ _ h
theorem RowAt.rowO {b : Nat} {cs : Array Value} {t : TypeId} {w : World} (h : RowAt b cs t w) {g : Nat} (hn : ¬ b = g) (y : Array Value) : RowAt b cs t (w.setRow g y) := by
  unfold RowAt at h ⊢; rw [setRow_other w g b y hn]; exact h
theorem two_sz {a b : List Int} (h : a.length = b.length) : (cv a).size = (cv b).size := by rw [cv_size, cv_size, h]

set_option maxHeartbeats 1000000 in
theorem rounds_any {d : Nat} {n s : Int} {l : List Rnd} {w : World} (h : DkAt d n s l w) :
    Calls Tryd.prog 25 #[.pointer (some ⟨d, 0, none⟩)] w fun e w' => e = .returned (.agg (cv (rs l))) ∧ Below w.heap.size w w' := by
  have r0 := RowAt.news w (cv (rs rds0)) 46
  have hB := below_one w (.cells (cv (rs rds0)) 46)
  have h1 := h.later hB
  have ok := h.2
  clear h
  go_enter Tryd.func25, Tryd.ntmps25
  go_upto_region 1 with (refine wpL_alloc rfl _ rfl zRnds ?_)
  generalize w.alloc (.cells (cv (rs rds0)) 46) = W at *
  have hlt := h1.lt
  obtain ⟨b, hb⟩ : ∃ b, w.heap.size = b := ⟨_, rfl⟩
  rw [hb] at r0 ⊢
  go_wp2_with (first | (refine ldRnds ok rfl _ rfl rfl h1.rounds ?_) | (refine wpL_stRow rfl _ _ _ rfl rfl rfl r0 (rnds_size ok) (two_sz (by rw [rs_len ok, rs_len rds0_ok])) (cv_one _) ?_))
  exact bodyPost_ret (v := .agg (cv (rs l))) (results_cell_row rfl _ _ b _ _ _ _ rfl (r0.rowI (cv (rs l))) Tryd.underlying46 rfl (rnds_size ok)) rfl ⟨rfl, by rw [← hb]; exact below_row hB (Nat.le_refl _) _⟩

set_option maxHeartbeats 1000000 in
theorem become_any {d : Nat} {n s : Int} {l : List Rnd} {w : World} (h : DkAt d n s l w) {m : List Rnd} (om : OkL m) :
    Calls Tryd.prog 63 #[.pointer (some ⟨d, 0, none⟩), .agg (cv (rs m))] w fun e w' => e = .returned (.bool (!(l == m))) ∧ DkAt d n s m w' ∧ Ch (fun k => k = d) w w' := by
  have r0 := RowAt.news w (cv (rs m)) 46
  have hB := below_one w (.cells (cv (rs m)) 46)
  have h1 := h.later hB
  have hdl := h.lt
  clear h
  have hq := eqInRnds 9995 h1.2 om
  have hg := rnds_guard
  go_enter Tryd.func63, Tryd.ntmps63
  go_upto_region 1 with fail
  obtain ⟨b, hb⟩ : ∃ b, w.heap.size = b := ⟨_, rfl⟩
  generalize hW : w.alloc (.cells (cv (rs m)) 46) = W at *
  clear hW
  rw [hb] at r0 ⊢
  cases hlm : (l == m)
  · rw [hlm] at hq
    refine wp_region_cls (by kernel_rfl) (by kernel_rfl) ?_
    repeat (first | go_big_quiet_skip | (go_big_quiet_want; first | (refine qRnds h1.2 _ rfl rfl h1.rounds.cls ?_; simp only [Act.put, List.setIfInBounds_toArray, List.set_cons_succ, List.set_cons_zero]; go_big_quiet_on) | (refine qRnds om _ rfl rfl r0.in.cls ?_; simp only [Act.put, List.setIfInBounds_toArray, List.set_cons_succ, List.set_cons_zero]; go_big_quiet_on) | (go_big_quiet_op; first | go_big_quiet_on | go_big_quiet_call ((fail)))))
    refine wpQuiet_nil ?_
    rintro w1 ⟨s1, e1⟩
    have hb1 := wOf_below s1
    rw [← e1] at hb1
    clear e1 s1
    replace h1 := h1.later hb1
    replace r0 := r0.later hb1
    replace hB := bgo hB hb1
    clear hb1
    rename World => w1
    have hp := h1.1.putC (o := 2) (y := rs m) (by rw [dk_len n s h1.2, rs_len om]; exact Nat.le_refl _)
    rw [dk_all n s h1.2 om] at hp
    have hc := Ch.cells (S := fun k => k = d) (a := w) (g := d) (.inl rfl) (cv (rs m)).toList 2 w1 (Ch.of hB)
    have HF := hid_of' (And.intro hp hc)
    clear hp hc
    go_wp2_with (first | (refine ldRnds om rfl _ rfl rfl r0.in ?_) | (refine stRnds rfl _ _ rfl rfl om rfl h1.1 (by rw [dk_len n s h1.2]; exact Nat.le_refl _) ?_))
    go_ret
    exact ⟨by rw [hlm]; rfl, ⟨HF.out.1, om⟩, HF.out.2⟩
  · rw [hlm] at hq
    refine wp_region_cls (by kernel_rfl) (by kernel_rfl) ?_
    repeat (first | go_big_quiet_skip | (go_big_quiet_want; first | (refine qRnds h1.2 _ rfl rfl h1.rounds.cls ?_; simp only [Act.put, List.setIfInBounds_toArray, List.set_cons_succ, List.set_cons_zero]; go_big_quiet_on) | (refine qRnds om _ rfl rfl r0.in.cls ?_; simp only [Act.put, List.setIfInBounds_toArray, List.set_cons_succ, List.set_cons_zero]; go_big_quiet_on) | (go_big_quiet_op; first | go_big_quiet_on | go_big_quiet_call ((fail)))))
    refine wpQuiet_nil ?_
    rintro w1 ⟨s1, e1⟩
    have hb1 := wOf_below s1
    rw [← e1] at hb1
    clear e1 s1
    replace h1 := h1.later hb1
    replace r0 := r0.later hb1
    replace hB := bgo hB hb1
    clear hb1
    rename World => w1
    have hp := h1.1.putC (o := 2) (y := rs m) (by rw [dk_len n s h1.2, rs_len om]; exact Nat.le_refl _)
    rw [dk_all n s h1.2 om] at hp
    have hc := Ch.cells (S := fun k => k = d) (a := w) (g := d) (.inl rfl) (cv (rs m)).toList 2 w1 (Ch.of hB)
    have HF := hid_of' (And.intro hp hc)
    clear hp hc
    go_wp2_with (first | (refine ldRnds om rfl _ rfl rfl r0.in ?_) | (refine stRnds rfl _ _ rfl rfl om rfl h1.1 (by rw [dk_len n s h1.2]; exact Nat.le_refl _) ?_))
    go_ret
    exact ⟨by rw [hlm]; rfl, ⟨HF.out.1, om⟩, HF.out.2⟩

/-- How far a round has come at s. -/
def reachR (s : Nat) (r : Rnd) : Int := if r.num < 1 then 0 else if openR r = false then 3 else if en r.vot s ≠ 0 then 2 else 1
set_option maxHeartbeats 1000000 in
theorem reached_any {d : Nat} {n : Int} {s : Nat} {l : List Rnd} {w : World} (h : DkAt d n s l w) (hs : s < 8) {r : Rnd} (hr : r.Ok) :
    Calls Tryd.prog 73 #[.pointer (some ⟨d, 0, none⟩), .agg (cv (rc r))] w fun e w' => e = .returned (.int .i64 (reachR s r)) ∧ Below w.heap.size w w' := by
  have r1 := RowAt.news w (cv (rc r)) 44
  have hB := below_one w (.cells (cv (rc r)) 44)
  have h1 := h.later hB
  have hsi : (s : Int) < 8 := by omega
  have HO := fun w => hid_of' (isOpen_any r hr w)
  have cn := rcv_num r
  clear h
  by_cases hn : r.num < 1
  · have HV : Hid (reachR s r = 0) := if_pos hn
    clear h1
    go_enter Tryd.func73, Tryd.ntmps73
    go_wp2
    go_ret
    exact ⟨by rw [HV.out]; rfl, hB⟩
  · cases ho : openR r
    · have HV : Hid (reachR s r = 3) := by unfold Hid reachR; rw [if_neg hn, if_pos ho]
      rw [ho] at HO
      clear ho h1
      go_enter Tryd.func73, Tryd.ntmps73
      go_wp2_with (first | (refine ldRnd hr rfl _ rfl rfl r1.in ?_) | (go_at_call 56; refine (HO _).out.mono ?_; rintro e w1 ⟨rfl, hb1⟩))
      go_ret
      exact ⟨by rw [HV.out]; rfl, bgo hB hb1⟩
    · rw [ho] at HO
      by_cases hv : en r.vot s = 0
      · have HV : Hid (reachR s r = 1) := by unfold Hid reachR; rw [if_neg hn, if_neg (by rw [ho]; decide), if_neg (fun q => q hv)]
        have hv' : (en r.vot s != 0) = false := by simpa using hv
        clear ho hv
        go_enter Tryd.func73, Tryd.ntmps73
        go_upto_region 5 with (first | (refine ldRnd hr rfl _ rfl rfl r1.in ?_) | (go_at_call 56; refine (HO _).out.mono ?_; rintro e w1 ⟨rfl, hb1⟩))
        have c1 := (h1.later hb1).c1
        have c2 := (r1.later hb1).cell (9 + s)
        rw [rcv_vot hr hs] at c2
        go_wp2
        go_ret
        exact ⟨by rw [HV.out]; rfl, bgo hB hb1⟩
      · have HV : Hid (reachR s r = 2) := by unfold Hid reachR; rw [if_neg hn, if_neg (by rw [ho]; decide), if_pos hv]
        have hv' : (en r.vot s != 0) = true := by simpa using hv
        clear ho hv
        go_enter Tryd.func73, Tryd.ntmps73
        go_upto_region 5 with (first | (refine ldRnd hr rfl _ rfl rfl r1.in ?_) | (go_at_call 56; refine (HO _).out.mono ?_; rintro e w1 ⟨rfl, hb1⟩))
        have c1 := (h1.later hb1).c1
        have c2 := (r1.later hb1).cell (9 + s)
        rw [rcv_vot hr hs] at c2
        go_wp2
        go_ret
        exact ⟨by rw [HV.out]; rfl, bgo hB hb1⟩
end Go.Proofs.YtfgcljpiidhfpaaDoor
