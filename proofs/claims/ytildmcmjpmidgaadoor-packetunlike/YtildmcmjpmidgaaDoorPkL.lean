
/-
  barrowlaw09.wakes answers true; PacketNames; PacketOne.
-/
import Derived.Test.YtildmcmjpmidgaaDoorPkK
namespace Go.Proofs.YtildmcmjpmidgaaDoor
open Go.RowKit
set_option maxRecDepth 100000

section
variable {P : Program}
theorem wpList_built {ops : Array Oper} {rest : List Oper} {o : Oper} {a : Act} {w : World} {Q : Exit → Act → World → Prop} (hg : o.guard = none) (t : TypeId) (parts : Array (Nat × Operand)) (ho : o.op = .build t parts) (cells : Array Value)
    (hc : P.built t (parts.map fun (i, x) => (i, a.eval x)).toList = some cells)
    (h : wpList P ops Q rest (a.put o.dst (.agg cells)) w) : wpList P ops Q (o :: rest) a w :=
  wpList_build hg t parts ho (by rw [hc]; rfl) (by rw [hc]; exact h)
theorem quiet_built {o : Oper} {a : Act} {C : World → Prop} {K : Act → Prop} (t : TypeId) (parts : Array (Nat × Operand)) (ho : o.op = .build t parts) (cells : Array Value)
    (hc : P.built t (parts.map fun (i, x) => (i, a.eval x)).toList = some cells) (k : K (a.put o.dst (.agg cells))) : o.quiet P a C K :=
  ⟨.agg cells, fun w _ => by
    unfold Oper.quietAt execOp
    simp only [ho, Sem.run_bind, run_build w t _ cells hc, Result.andThen_ok]
    exact ⟨rfl, rfl⟩, k⟩
end

/-- The message of wakes. -/
def wkC : List Int := [3, 0, 1, 0, 0, 0, 0, 0]
def wkM : Pms := (2, 2, 0, wkC, [], zeroRs)
theorem built_wkC : Tryd.prog.built 23 [(0, .int .i64 3), (1, .int .i64 0), (2, .int .i64 1)] = some (cv wkC) := by kernel_rfl
theorem built_wkM : Tryd.prog.built 30 [(0, .int .i64 2), (1, .int .i64 2), (3, .agg (cv wkC))] = some (mv wkM (.slice none 0 0)) := by kernel_rfl
theorem built_zero : Tryd.prog.built 30 [] = some (mv zeroM (.slice none 0 0)) := by kernel_rfl
theorem quiet_zero {o : Oper} {a : Act} {C : World → Prop} {K : Act → Prop} (ho : o.op = .build 30 #[]) (k : K (a.put o.dst (.agg (mv zeroM (.slice none 0 0))))) : o.quiet Tryd.prog a C K :=
  quiet_built _ _ ho _ (by simpa using built_zero) k
theorem wk_bytes : fMsg wkM = [2, 2, 0, 3, 3, 0, 1] := by
  show UInt8.ofNat 2 :: (formN 2 ++ (formN 0 ++ ((formN 3 ++ (formN 3 ++ (formN 0 ++ (formN 1 ++ [])))) ++ ([] ++ [])))) = _
  rw [form_small (n := 2) (by decide), form_small (n := 0) (by decide), form_small (n := 3) (by decide), form_small (n := 1) (by decide)]
  rfl
theorem wk_ok : okMsg wkM := ⟨by decide, by decide, by decide, ⟨rfl, by decide⟩, rfl, rfl⟩
/-- What has a form is what an argument can hold. -/
theorem okMsg_fit {m : Pms} (h : okMsg m) (hl : m.2.2.2.2.1.length ≤ 1000000) : fitM m := by
  refine ⟨okMsg_sh h, fun a ha => ⟨(okMsg_sh h).2.1 a ha, ?_⟩, hl⟩
  obtain ⟨_, _, _, _, h5, _⟩ := h
  split at h5
  · have := (h5.2 a ha).1.2.2.2
    refine ⟨by omega, ?_⟩
    have h2 := this.2
    split at h2 <;> omega
  · rw [h5] at ha; simp at ha
theorem okMsg_bnd {m : Pms} (h : okMsg m) : bndM m := by
  obtain ⟨_, _, h3, _, h5, h6⟩ := h
  refine ⟨h3.2, fun a ha => ?_, fun r hr => ?_⟩
  · split at h5
    · exact ⟨(h5.2 a ha).1.2.2.1.2, (h5.2 a ha).2.1.2⟩
    · rw [h5] at ha; simp at ha
  · split at h6
    · exact (h6.2 r hr).1.2
    · rw [h6] at hr; rw [List.eq_of_mem_replicate hr]; decide
theorem okMsg_len {m : Pms} (h : okMsg m) : m.2.2.2.2.1.length ≤ (fMsg m).length := by
  obtain ⟨_, _, _, _, h5, _⟩ := h
  split at h5
  · rename_i hk
    have h1 := flat_len m.2.2.2.2.1
    have : (fActs m.2.2.2.2.1).length ≤ (fMsg m).length := by
      unfold fMsg fBody
      rw [if_pos hk]
      simp only [List.length_cons, List.length_append]
      omega
    have h2 : ((m.2.2.2.2.1.map fAct).flatten).length ≤ (fActs m.2.2.2.2.1).length := by
      unfold fActs; simp only [List.length_append]; omega
    omega
  · rw [h5]; simp
theorem wk_fit : fitM wkM := okMsg_fit wk_ok (by decide)
theorem wk_sl (w : World) : SlA w (.slice none 0 0) ([] : List Pac) := .inl ⟨rfl, _, _, rfl⟩
theorem slB_block {w : World} {g : Nat} {bs : List UInt8} (h : w.heap[g]? = some (.cells (Lib.byteCells bs).toArray 5 (0, 0))) : SlB w (.slice (some ⟨g, 0, none⟩) bs.length bs.length) bs :=
  .inr ⟨g, 0, _, rfl, (Array.getElem?_eq_some_iff.1 h).1, fun i b hi => by
    rw [Nat.zero_add, cell_of_row w g i _ _ (0, 0) h]
    have hi' := (List.getElem?_eq_some_iff.1 hi)
    obtain ⟨hlt, he⟩ := hi'
    subst he
    simp [Lib.byteCells, hlt]⟩
theorem SlB.later {w w' : World} {v : Value} {bs : List UInt8} (h : SlB w v bs) (hb : Below w.heap.size w w') : SlB w' v bs := h.grow hb
theorem Lw.later {ad : Nat → Addr} {w w' : World} (h : Lw ad w) (hb : Below w.heap.size w w') : Lw ad w' := h.kept (S := []) (.of hb) (by simp)
theorem wk_kind : kindB [2, 2, 0, 3, 3, 0, 1] = 2 := by decide

set_option maxHeartbeats 2000000 in
theorem wakes9_ok {ad : Nat → Addr} {w : World} (L : Lw ad w) :
    Calls Tryd.prog 10 #[] w fun e w' => e = .returned (.bool true) ∧ Below w.heap.size w w' := by
  have hz : (Tryd.prog.info? 30).bind (·.zero) = some (.agg (mv zeroM (.slice none 0 0))) := zero_ms
  have HL := hid_of' L
  clear L
  go_enter Tryd.func10, Tryd.ntmps10
  go_upto_region 2 with (first | ((with_reducible refine wpList_built rfl 23 _ rfl (cv wkC) ?_ ?_); (first | exact built_wkC | (simp; exact built_wkC))) | ((with_reducible refine wpList_built rfl 30 _ rfl (mv wkM (.slice none 0 0)) ?_ ?_); (first | exact built_wkM | (simp; exact built_wkM))) | (refine wpL_alloc rfl _ rfl hz ?_; go_simp) | (refine wpL_stNew rfl _ _ _ rfl rfl rfl rfl (mv_size wk_fit.sh) (by rw [mv_sz wk_fit.sh, mv_sz zeroM_sh]) (mv_one _ rfl) ?_))
  have hB := below_one w (.cells (mv wkM (.slice none 0 0)) 30)
  have h1 := RowAt.new w (mv wkM (.slice none 0 0)) 30
  have L1 := HL.out.kept (S := []) (.of hB) (by simp)
  generalize w.alloc (.cells (mv wkM (.slice none 0 0)) 30) = w1 at *
  have h1i := h1.in
  have HY0 := bytesP_ok wkM (.slice none 0 0) w1 wk_fit (okMsg_bnd wk_ok) (wk_sl w1) wk_ok
  rw [wk_bytes] at HY0
  have HY := hid_of' HY0
  clear HY0
  go_upto_region 3 with (first | (refine ld_ms wk_fit.sh rfl _ rfl rfl h1i ?_) | (go_at_call 8; (with_reducible refine HY.out.mono ?_); rintro e w2 ⟨g, hg, rfl, hgb, hb2⟩))
  replace h1 := h1.later hb2
  replace hB := bgo hB hb2
  replace L1 := L1.kept (S := []) (.of hb2) (by simp)
  clear HY h1i hb2 HL hg
  have hcv : ∀ s : Wld w2, (convert 32 9 (.slice (some ⟨g, 0, none⟩) 7 7)).run Tryd.prog (wOf s) = .ok (.string ⟨#[2, 2, 0, 3, 3, 0, 1]⟩) (wOf s) := fun s => conv_block (bs := [2, 2, 0, 3, 3, 0, 1]) (by rw [(wOf_below s).block g (Array.getElem?_eq_some_iff.1 hgb).1]; exact hgb) 7
  have hS := slB_block hgb
  have HG := hid_of' hgb
  clear hgb
  simp only [List.length_cons, List.length_nil, Nat.zero_add, Nat.reduceAdd] at hS ⊢
  refine wp_region_cls0 ?_
  repeat (first | go_big_quiet_skip | (go_big_quiet_want; first | (go_big_quiet_op; first | go_big_quiet_on | go_big_quiet_call ((fail)))))
  refine wpQuiet_nil ?_
  rintro w1 ⟨s1, e1⟩
  have hb1 := wOf_below s1
  rw [← e1] at hb1
  clear e1 s1
  replace h1 := h1.later hb1
  replace hS := hS.later hb1
  replace L1 := L1.later hb1
  replace hB := bgo hB hb1
  clear hb1
  clear hcv HG
  have HR := hid_of' (read_any L1 hS (by decide))
  have hrd : readM [2, 2, 0, 3, 3, 0, 1] = .ok wkM := by rw [← wk_bytes]; exact readM_back wk_ok
  have HRD := hid_of' hrd
  clear hrd L1
  go_upto_region 6 with (first | (go_at_call 11; (with_reducible refine HR.out.mono ?_); intro e w3 h3; obtain ⟨hb3, sv, rfl, ho3, hs3⟩ := h3.ok HRD.out; obtain ⟨sa, sc, rfl⟩ := ho3.form) | (refine wpL_alloc rfl _ rfl hz ?_; go_simp) | (refine wpL_stNew rfl _ _ _ rfl rfl rfl rfl (mv_size hs3) (by rw [mv_sz hs3, mv_sz zeroM_sh]) (mv_one _ rfl) ?_))
  have hA := ho3.sl hs3.2.1
  replace h1 := h1.later hb3
  replace hS := hS.later hb3
  replace hB := bgo hB hb3
  clear ho3 HR HRD hz hb3
  have hb4 := below_one w3 (.cells (mv wkM (.slice sa wkM.2.2.2.2.1.length sc)) 30)
  have h2 := RowAt.new w3 (mv wkM (.slice sa wkM.2.2.2.2.1.length sc)) 30
  replace h1 := h1.later hb4
  replace hS := hS.later hb4
  replace hA := hA.later hb4
  replace hB := bgo hB hb4
  clear hb4
  generalize w3.alloc (.cells (mv wkM (.slice sa wkM.2.2.2.2.1.length sc)) 30) = w4 at *
  have p1 := h1.in
  have p2 := h2.in
  have hk := wk_kind
  refine wp_region_cls0 ?_
  repeat (first | go_big_quiet_skip | (go_big_quiet_want; first | (refine quiet_ms wk_fit.sh _ rfl rfl p1.cls ?_; simp only [Act.put, List.setIfInBounds_toArray, List.set_cons_succ, List.set_cons_zero]; go_big_quiet_on) | (refine quiet_ms hs3 _ rfl rfl p2.cls ?_; simp only [Act.put, List.setIfInBounds_toArray, List.set_cons_succ, List.set_cons_zero]; go_big_quiet_on) | (go_big_quiet_op; first | go_big_quiet_on | go_big_quiet_call ((first | (go_at_call 12; exact cls_of (messageK_is (a := wkM) (b := wkM) (x := true) (beq_self_eq_true _) _ _ _ hs3 wk_fit.sh (hA.later (wOf_below _)) (wk_sl _) (by decide))) | (go_at_call 14; exact cls_of_same (kindP_is hk (hS.later (wOf_below _)))))))))
  refine wpQuiet_nil ?_
  rintro w1 ⟨s1, e1⟩
  have hb1 := wOf_below s1
  rw [← e1] at hb1
  clear e1 s1
  replace h1 := h1.later hb1
  replace hS := hS.later hb1
  replace hB := bgo hB hb1
  clear hb1
  go_wp2
  go_ret
  exact ⟨rfl, hB⟩

set_option maxHeartbeats 2000000 in
theorem packetNames_all {ad : Nat → Addr} {w : World} (L : Lw ad w) :
    Calls Tryd.prog 6 #[] w fun e w' => e = .returned (.bool true) ∧ Below w.heap.size w w' := by
  have hB := Below.refl w.heap.size w
  have hS : SlB w (.slice none 0 0) [] := .inl ⟨rfl, _, _, rfl⟩
  have hk : kindB [] = 0 := rfl
  go_enter Tryd.func6, Tryd.ntmps6
  go_upto_region 1 with fail
  refine wp_region_cls0 ?_
  repeat (first | go_big_quiet_skip | (go_big_quiet_want; first | (go_big_quiet_op; first | go_big_quiet_on | go_big_quiet_call ((first | (go_at_call 14; exact cls_of_same (kindP_is hk (hS.later (wOf_below _)))) | (go_at_call 10; exact cls_of (wakes9_ok (L.later (wOf_below _)))))))))
  refine wpQuiet_nil ?_
  rintro w1 ⟨s1, e1⟩
  have hb1 := wOf_below s1
  rw [← e1] at hb1
  clear e1 s1
  replace L := L.later hb1
  replace hB := bgo hB hb1
  clear hb1
  go_wp2
  go_ret
  exact ⟨rfl, hB⟩
end Go.Proofs.YtildmcmjpmidgaaDoor
