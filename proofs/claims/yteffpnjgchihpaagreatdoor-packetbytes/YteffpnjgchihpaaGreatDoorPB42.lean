
/-
  barrowlaw09.wakes answers true; PacketNames; PacketOne. PacketOne: what Read takes is right, and is written by just the bytes that were read. cut: a message with no more acts than are played.
-/
import Derived.Test.YteffpnjgchihpaaGreatDoorPB41
namespace Go.Proofs.YteffpnjgchihpaaGreatDoor
open Go.RowKit
set_option maxRecDepth 100000

section
variable {P : Program}
theorem wpList_builtL {ops : Array Oper} {rest : List Oper} {o : Oper} {a : Act} {w : World} {Q : Exit → Act → World → Prop} (hg : o.guard = none) (t : TypeId) (parts : Array (Nat × Operand)) (ho : o.op = .build t parts) (cells : Array Value)
    (hc : P.built t (parts.map fun (i, x) => (i, a.eval x)).toList = some cells)
    (h : wpList P ops Q rest (a.put o.dst (.agg cells)) w) : wpList P ops Q (o :: rest) a w :=
  wpList_build hg t parts ho (by rw [hc]; rfl) (by rw [hc]; exact h)
theorem quiet_built {o : Oper} {a : Act} {C : World → Prop} {K : Act → Prop} (t : TypeId) (parts : Array (Nat × Operand)) (ho : o.op = .build t parts) (cells : Array Value)
    (hc : P.built t (parts.map fun (i, x) => (i, a.eval x)).toList = some cells) (k : K (a.put o.dst (.agg cells))) : o.quiet P a C K :=
  ⟨.agg cells, fun w _ => by
    unfold Oper.quietAt execOp
    simp only [ho, Sem.run_bind, run_build w t _ cells hc, Result.andThen_ok]
    exact ⟨rfl, rfl⟩, k⟩
end

/-- The message of wakes. -/
def wkC : List Int := [3, 0, 1, 0, 0, 0, 0, 0]
def wkM : Pms := (2, 2, 0, wkC, [], zeroRs)
theorem built_wkC : Tryz.prog.built 24 [(0, .int .i64 3), (1, .int .i64 0), (2, .int .i64 1)] = some (cv wkC) := by kernel_rfl
theorem built_wkM : Tryz.prog.built 31 [(0, .int .i64 2), (1, .int .i64 2), (3, .agg (cv wkC))] = some (mv wkM (.slice none 0 0)) := by kernel_rfl
theorem built_zero : Tryz.prog.built 31 [] = some (mv zeroM (.slice none 0 0)) := by kernel_rfl
theorem quiet_zero {o : Oper} {a : Act} {C : World → Prop} {K : Act → Prop} (ho : o.op = .build 31 #[]) (k : K (a.put o.dst (.agg (mv zeroM (.slice none 0 0))))) : o.quiet Tryz.prog a C K :=
  quiet_built _ _ ho _ (by simpa using built_zero) k
theorem wk_bytes : fMsg wkM = [2, 2, 0, 3, 3, 0, 1] := by
  show UInt8.ofNat 2 :: (formN 2 ++ (formN 0 ++ ((formN 3 ++ (formN 3 ++ (formN 0 ++ (formN 1 ++ [])))) ++ ([] ++ [])))) = _
  rw [form_small (n := 2) (by decide), form_small (n := 0) (by decide), form_small (n := 3) (by decide), form_small (n := 1) (by decide)]
  rfl
theorem wk_ok : okMsg wkM := ⟨by decide, by decide, by decide, ⟨rfl, by decide⟩, rfl, rfl⟩
/-- What has a form is what an argument can hold. -/
theorem okMsg_fit {m : Pms} (h : okMsg m) (hl : m.2.2.2.2.1.length ≤ 1000000) : fitM m := by
  refine ⟨okMsg_sh h, fun a ha => ⟨(okMsg_sh h).2.1 a ha, ?_⟩, hl⟩
  obtain ⟨_, _, _, _, h5, _⟩ := h
  split at h5
  · have := (h5.2 a ha).1.2.2.2
    refine ⟨by omega, ?_⟩
    have h2 := this.2
    split at h2 <;> omega
  · rw [h5] at ha; simp at ha
theorem okMsg_bnd {m : Pms} (h : okMsg m) : bndM m := by
  obtain ⟨_, _, h3, _, h5, h6⟩ := h
  refine ⟨h3.2, fun a ha => ?_, fun r hr => ?_⟩
  · split at h5
    · exact ⟨(h5.2 a ha).1.2.2.1.2, (h5.2 a ha).2.1.2⟩
    · rw [h5] at ha; simp at ha
  · split at h6
    · exact (h6.2 r hr).1.2
    · rw [h6] at hr; rw [List.eq_of_mem_replicate hr]; decide
theorem okMsg_len {m : Pms} (h : okMsg m) : m.2.2.2.2.1.length ≤ (fMsg m).length := by
  obtain ⟨_, _, _, _, h5, _⟩ := h
  split at h5
  · rename_i hk
    have h1 := flat_len m.2.2.2.2.1
    have : (fActs m.2.2.2.2.1).length ≤ (fMsg m).length := by
      unfold fMsg fBody
      rw [if_pos hk]
      simp only [List.length_cons, List.length_append]
      omega
    have h2 : ((m.2.2.2.2.1.map fAct).flatten).length ≤ (fActs m.2.2.2.2.1).length := by
      unfold fActs; simp only [List.length_append]; omega
    omega
  · rw [h5]; simp
theorem wk_fit : fitM wkM := okMsg_fit wk_ok (by decide)
theorem wk_sl (w : World) : SlA w (.slice none 0 0) ([] : List Pac) := .inl ⟨rfl, _, _, rfl⟩
theorem slB_block {w : World} {g : Nat} {bs : List UInt8} (h : w.heap[g]? = some (.cells (Lib.byteCells bs).toArray 5 (0, 0))) : SlB w (.slice (some ⟨g, 0, none⟩) bs.length bs.length) bs :=
  .inr ⟨g, 0, _, rfl, (Array.getElem?_eq_some_iff.1 h).1, fun i b hi => by
    rw [Nat.zero_add, cell_of_row w g i _ _ (0, 0) h]
    have hi' := (List.getElem?_eq_some_iff.1 hi)
    obtain ⟨hlt, he⟩ := hi'
    subst he
    simp [Lib.byteCells, hlt]⟩
theorem SlB.later {w w' : World} {v : Value} {bs : List UInt8} (h : SlB w v bs) (hb : Below w.heap.size w w') : SlB w' v bs := h.grow hb
theorem Lw.later {ad : Nat → Addr} {w w' : World} (h : Lw ad w) (hb : Below w.heap.size w w') : Lw ad w' := h.kept (S := []) (.of hb) (by simp)
theorem wk_kind : kindB [2, 2, 0, 3, 3, 0, 1] = 2 := by decide

set_option maxHeartbeats 2000000 in
theorem wakes9_ok {ad : Nat → Addr} {w : World} (L : Lw ad w) :
    Calls Tryz.prog 13 #[] w fun e w' => e = .returned (.bool true) ∧ Below w.heap.size w w' := by
  have hz : (Tryz.prog.info? 31).bind (·.zero) = some (.agg (mv zeroM (.slice none 0 0))) := zero_ms
  have HL := hid_of' L
  clear L
  go_enter Tryz.func13, Tryz.ntmps13
  go_upto_region 2 with (first | ((with_reducible refine wpList_builtL rfl 24 _ rfl (cv wkC) ?_ ?_); (first | exact built_wkC | (simp; exact built_wkC))) | ((with_reducible refine wpList_builtL rfl 31 _ rfl (mv wkM (.slice none 0 0)) ?_ ?_); (first | exact built_wkM | (simp; exact built_wkM))) | (refine wpL_alloc rfl _ rfl hz ?_; go_simp) | (refine wpL_stNew rfl _ _ _ rfl rfl rfl rfl (mv_size wk_fit.sh) (by rw [mv_sz wk_fit.sh, mv_sz zeroM_sh]) (mv_one _ rfl) ?_))
  have hB := below_one w (.cells (mv wkM (.slice none 0 0)) 31)
  have h1 := RowAt.new w (mv wkM (.slice none 0 0)) 31
  have L1 := HL.out.kept (S := []) (.of hB) (by simp)
  generalize w.alloc (.cells (mv wkM (.slice none 0 0)) 31) = w1 at *
  have h1i := h1.in
  have HY0 := bytesP_ok wkM (.slice none 0 0) w1 wk_fit (okMsg_bnd wk_ok) (wk_sl w1) wk_ok
  rw [wk_bytes] at HY0
  have HY := hid_of' HY0
  clear HY0
  go_upto_region 3 with (first | (refine ld_ms wk_fit.sh rfl _ rfl rfl h1i ?_) | (go_at_call 7; (with_reducible refine HY.out.mono ?_); rintro e w2 ⟨g, hg, rfl, hgb, hb2⟩))
  replace h1 := h1.later hb2
  replace hB := bgo hB hb2
  replace L1 := L1.kept (S := []) (.of hb2) (by simp)
  clear HY h1i hb2 HL hg
  have hcv : ∀ s : Wld w2, (convert 33 9 (.slice (some ⟨g, 0, none⟩) 7 7)).run Tryz.prog (wOf s) = .ok (.string ⟨#[2, 2, 0, 3, 3, 0, 1]⟩) (wOf s) := fun s => conv_block (bs := [2, 2, 0, 3, 3, 0, 1]) (by rw [(wOf_below s).block g (Array.getElem?_eq_some_iff.1 hgb).1]; exact hgb) 7
  have hS := slB_block hgb
  have HG := hid_of' hgb
  clear hgb
  simp only [List.length_cons, List.length_nil, Nat.zero_add, Nat.reduceAdd] at hS ⊢
  refine wp_region_cls0 ?_
  repeat (first | go_big_quiet_skip | (go_big_quiet_want; first | (go_big_quiet_op; first | go_big_quiet_on | go_big_quiet_call ((fail)))))
  refine wpQuiet_nil ?_
  rintro w1 ⟨s1, e1⟩
  have hb1 := wOf_below s1
  rw [← e1] at hb1
  clear e1 s1
  replace h1 := h1.later hb1
  replace hS := hS.later hb1
  replace L1 := L1.later hb1
  replace hB := bgo hB hb1
  clear hb1
  clear hcv HG
  have HR := hid_of' (read_any L1 hS (by decide))
  have hrd : readM [2, 2, 0, 3, 3, 0, 1] = .ok wkM := by rw [← wk_bytes]; exact readM_back wk_ok
  have HRD := hid_of' hrd
  clear hrd L1
  go_upto_region 6 with (first | (go_at_call 41; (with_reducible refine HR.out.mono ?_); intro e w3 h3; obtain ⟨hb3, sv, rfl, ho3, hs3⟩ := h3.ok HRD.out; obtain ⟨sa, sc, rfl⟩ := ho3.form) | (refine wpL_alloc rfl _ rfl hz ?_; go_simp) | (refine wpL_stNew rfl _ _ _ rfl rfl rfl rfl (mv_size hs3) (by rw [mv_sz hs3, mv_sz zeroM_sh]) (mv_one _ rfl) ?_))
  have hA := ho3.sl hs3.2.1
  replace h1 := h1.later hb3
  replace hS := hS.later hb3
  replace hB := bgo hB hb3
  clear ho3 HR HRD hz hb3
  have hb4 := below_one w3 (.cells (mv wkM (.slice sa wkM.2.2.2.2.1.length sc)) 31)
  have h2 := RowAt.new w3 (mv wkM (.slice sa wkM.2.2.2.2.1.length sc)) 31
  replace h1 := h1.later hb4
  replace hS := hS.later hb4
  replace hA := hA.later hb4
  replace hB := bgo hB hb4
  clear hb4
  generalize w3.alloc (.cells (mv wkM (.slice sa wkM.2.2.2.2.1.length sc)) 31) = w4 at *
  have p1 := h1.in
  have p2 := h2.in
  have hk := wk_kind
  refine wp_region_cls0 ?_
  repeat (first | go_big_quiet_skip | (go_big_quiet_want; first | (refine quiet_ms wk_fit.sh _ rfl rfl p1.cls ?_; simp only [Act.put, List.setIfInBounds_toArray, List.set_cons_succ, List.set_cons_zero]; go_big_quiet_on) | (refine quiet_ms hs3 _ rfl rfl p2.cls ?_; simp only [Act.put, List.setIfInBounds_toArray, List.set_cons_succ, List.set_cons_zero]; go_big_quiet_on) | (go_big_quiet_op; first | go_big_quiet_on | go_big_quiet_call ((first | (go_at_call 42; exact cls_of (messageK_is (a := wkM) (b := wkM) (x := true) (beq_self_eq_true _) _ _ _ hs3 wk_fit.sh (hA.later (wOf_below _)) (wk_sl _) (by decide))) | (go_at_call 43; exact cls_of_same (kindP_is hk (hS.later (wOf_below _)))))))))
  refine wpQuiet_nil ?_
  rintro w1 ⟨s1, e1⟩
  have hb1 := wOf_below s1
  rw [← e1] at hb1
  clear e1 s1
  replace h1 := h1.later hb1
  replace hS := hS.later hb1
  replace hB := bgo hB hb1
  clear hb1
  go_wp2
  go_ret
  exact ⟨rfl, hB⟩

end Go.Proofs.YteffpnjgchihpaaGreatDoor
namespace Go.Proofs.YteffpnjgchihpaaGreatDoor
open Go.RowKit
set_option maxRecDepth 100000

/-- The first bytes of a slice as a text. -/
theorem conv_sl {w : World} {a : Option Addr} {c pl : Nat} {bs : List UInt8} (h : SlB w (.slice a bs.length c) bs) (hp : pl ≤ bs.length) : (convert 33 9 (.slice a pl c)).run Tryz.prog w = .ok (.string ⟨(bs.take pl).toArray⟩) w := by
  rcases h with ⟨rfl, _⟩ | ⟨g, o, c', he, hg, hc⟩
  · obtain rfl : pl = 0 := by simpa using hp
    rw [run_convert_bytes_string w 33 9 5 a 0 c Tryz.underlying33 Tryz.underlying5 Tryz.underlying9]
    cases a <;> rfl
  · simp only [Value.slice.injEq, true_and] at he
    obtain ⟨rfl, rfl⟩ := he
    have hl : (bs.take pl).length = pl := by simp; omega
    have := run_convert_bytes_back (P := Tryz.prog) w 33 9 5 ⟨g, o, none⟩ c (bs.take pl) Tryz.underlying33 Tryz.underlying5 Tryz.underlying9 (fun j hj => by
      rw [Addr.add_lit]
      refine hc j _ ?_
      rw [List.getElem_take]
      exact List.getElem?_eq_getElem _)
    rw [hl] at this
    exact this
theorem SlB.form {w : World} {v : Value} {bs : List UInt8} (h : SlB w v bs) : ∃ a c, v = .slice a bs.length c := by
  rcases h with ⟨rfl, a, c, rfl⟩ | ⟨g, o, c, rfl, _⟩
  · exact ⟨a, c, rfl⟩
  · exact ⟨_, c, rfl⟩
theorem conv_all {w : World} {a : Option Addr} {c : Nat} {bs : List UInt8} (h : SlB w (.slice a bs.length c) bs) : (convert 33 9 (.slice a bs.length c)).run Tryz.prog w = .ok (.string ⟨bs.toArray⟩) w := by
  have := conv_sl h (Nat.le_refl _)
  rwa [List.take_length] at this
theorem kindB_ok {m : Pms} (h : okMsg m) : kindB (fMsg m) = m.1 := by
  have hk := h.1
  have e : ((UInt8.ofNat m.1.toNat).toNat : Int) = m.1 := by
    rw [UInt8.toNat_ofNat']
    omega
  show (if oneB ((UInt8.ofNat m.1.toNat).toNat : Int) 4 then ((UInt8.ofNat m.1.toNat).toNat : Int) else 0) = m.1
  rw [e, if_pos (by unfold oneB; simp; exact hk)]

end Go.Proofs.YteffpnjgchihpaaGreatDoor
namespace Go.Proofs.YteffpnjgchihpaaGreatDoor
open Go.RowKit
set_option maxRecDepth 100000

def cutM (m : Pms) : Pms := (m.1, m.2.1, m.2.2.1, m.2.2.2.1, m.2.2.2.2.1.take 60, m.2.2.2.2.2)
theorem cutM_sh {m : Pms} (h : shM m) : shM (cutM m) := ⟨h.1, fun a ha => h.2.1 a (List.mem_of_mem_take ha), h.2.2⟩
theorem cutM_fit {m : Pms} (h : shM m) (ha : ∀ a ∈ m.2.2.2.2.1, fitA a) : fitM (cutM m) := ⟨cutM_sh h, fun a hm => ha a (List.mem_of_mem_take hm), by simp only [cutM, List.length_take]; omega⟩
theorem cutM_bnd {m : Pms} (h : bndM m) : bndM (cutM m) := ⟨h.e, fun a ha => h.a a (List.mem_of_mem_take ha), h.r⟩
theorem mv_cut (m : Pms) (s : Value) : mv (cutM m) s = mv m s := rfl
theorem results_m1 {fn : Func} {p : Tmp} {tmps : Array Value} {w : World} {g : Nat} {m : Pms} {s : Value} (h : fn.results = #[.cell p 31]) (hp : tmps.getD p undef = .pointer (some ⟨g, 0, none⟩)) (hg : RowAt g (mv m s) 31 w) (hs : shM m) :
    (results fn tmps).run Tryz.prog w = .ok (.agg (mv m s)) w := by
  have hp' : tmps[p]?.getD undef = .pointer (some ⟨g, 0, none⟩) := by simpa using hp
  simp [results, h, hp', asAddr, run_loadVar_row w g _ _ _ _ _ hg Tryz.underlying31 rfl (mv_size hs)]
theorem SlA.take {w : World} {a : Option Addr} {c : Nat} {l : List Pac} (h : SlA w (.slice a l.length c) l) {k : Nat} (hk : k ≤ l.length) : SlA w (.slice a k c) (l.take k) := by
  have hl : (l.take k).length = k := by simp; omega
  rcases h with ⟨rfl, _⟩ | ⟨g, o, c', he, hg, hA⟩
  · obtain rfl : k = 0 := by simpa using hk
    exact .inl ⟨by simp, _, _, rfl⟩
  · simp only [Value.slice.injEq, true_and] at he
    obtain ⟨rfl, rfl⟩ := he
    refine .inr ⟨g, o, c, by rw [hl], hg, fun i x hx => hA i x ?_⟩
    rw [List.getElem?_take] at hx
    split at hx
    · exact hx
    · cases hx

set_option maxHeartbeats 2000000 in
theorem cut9_any (m : Pms) (s : Value) (w : World) (hs : shM m) (hA : SlA w s m.2.2.2.2.1) (hc : ∀ a n c, s = .slice a n c → n ≤ c) :
    Calls Tryz.prog 4 #[.agg (mv m s)] w fun e w' => ∃ s', e = .returned (.agg (mv (cutM m) s')) ∧ (∀ x, SlA x s m.2.2.2.2.1 → SlA x s' (cutM m).2.2.2.2.1) ∧ Below w.heap.size w w' := by
  have hz : (Tryz.prog.info? 31).bind (·.zero) = some (.agg (mv zeroM (.slice none 0 0))) := zero_ms
  obtain ⟨h1, h2, hB⟩ := two_boxes w (mv m s) (mv zeroM (.slice none 0 0)) 31 31
  obtain ⟨a, c, rfl⟩ := hA.form
  have hcap := hc _ _ _ rfl
  go_enter Tryz.func4, Tryz.ntmps4
  go_upto_region 1 with (refine wpL_alloc rfl _ rfl hz ?_; go_simp)
  generalize (w.alloc (.cells (mv m (.slice a m.2.2.2.2.1.length c)) 31)).alloc (.cells (mv zeroM (.slice none 0 0)) 31) = w1 at *
  have d1 : w1.cell? ⟨w.heap.size, 11, none⟩ = some (.slice a m.2.2.2.2.1.length c) := by rw [h1.cell]; exact mv_a _ hs
  have f1 := frozenW_of h1 11
  by_cases hl : (60 : Int) < (m.2.2.2.2.1.length : Int)
  · have HA := hid_of' (show ∀ x, SlA x (.slice a m.2.2.2.2.1.length c) m.2.2.2.2.1 → SlA x (.slice a 60 c) (cutM m).2.2.2.2.1 from fun x hx => hx.take (k := 60) (by omega))
    have hcc : (60 : Int) ≤ (c : Int) := by omega
    have hc0 : ¬ c = 0 := by omega
    have HH := hid_of' (And.intro h1 (And.intro h2 hB))
    clear hA hc hcap h1 h2 hB
    go_upto_region 3 with fail
    have g1 : RowAt w.heap.size (mv m (.slice a 60 c)) 31 (w1.setCell ⟨w.heap.size, 11, none⟩ (.slice a 60 c)) := by
      have := heap_setCell_at HH.out.1 11 (.slice a 60 c)
      rwa [mv_setA hs] at this
    have k1 : Kept [w.heap.size] w1 (w1.setCell ⟨w.heap.size, 11, none⟩ (.slice a 60 c)) := (Kept.refl _ _).set (p := ⟨w.heap.size, 11, none⟩) (.inl (by simp)) _
    have g2 := HH.out.2.1.kept k1 (by simp)
    have gB := below_kept1 HH.out.2.2 k1 (Nat.le_refl _) HH.out.2.2.size
    clear k1 HH d1 f1 hz
    generalize w1.setCell ⟨w.heap.size, 11, none⟩ (.slice a 60 c) = w2 at *
    go_wp2_with (first | (refine ld_ms hs rfl _ rfl rfl g1.in ?_) | (refine wpList_store_row rfl _ _ _ rfl _ _ rfl rfl _ _ g2 (mv_size hs) (by rw [mv_sz hs, mv_sz zeroM_sh]) (mv_one _ rfl) ?_))
    refine bodyPost_ret (results_m1 (fn := Tryz.f4) (p := 2) (m := m) rfl rfl (setRow_heap _ _ _ _ _ _ g2) hs) rfl ?_
    exact ⟨_, by rw [mv_cut], HA.out, below_setRow gB (Nat.le_succ _) _⟩
  · have HA : Hid (∀ x, SlA x (.slice a m.2.2.2.2.1.length c) m.2.2.2.2.1 → SlA x (.slice a m.2.2.2.2.1.length c) (m.2.2.2.2.1.take 60)) := by
      rw [List.take_of_length_le (by omega)]; exact fun _ h => h
    have g1 := h1
    have g2 := h2
    have gB := hB
    clear hA hc hcap h1 h2 hB
    go_upto_region 3 with fail
    clear d1 f1 hz
    go_wp2_with (first | (refine ld_ms hs rfl _ rfl rfl g1.in ?_) | (refine wpList_store_row rfl _ _ _ rfl _ _ rfl rfl _ _ g2 (mv_size hs) (by rw [mv_sz hs, mv_sz zeroM_sh]) (mv_one _ rfl) ?_))
    refine bodyPost_ret (results_m1 (fn := Tryz.f4) (p := 2) (m := m) rfl rfl (setRow_heap _ _ _ _ _ _ g2) hs) rfl ?_
    exact ⟨_, by rw [mv_cut], HA.out, below_setRow gB (Nat.le_succ _) _⟩
end Go.Proofs.YteffpnjgchihpaaGreatDoor
