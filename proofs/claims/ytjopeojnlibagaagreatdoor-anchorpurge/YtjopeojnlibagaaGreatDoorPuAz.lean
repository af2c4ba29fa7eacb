
/-
  (*Model).Purge. barrowref05.Purge; what Purge leaves. barrowlaw05.ModelPurge.
-/
import Derived.Test.YtjopeojnlibagaaGreatDoorMbA
import Derived.Test.YtjopeojnlibagaaGreatDoorVwZ
import Derived.RangeFuncCalls
import Derived.Sort.CutIn
import Derived.Maps.OwnIn
namespace Go.Proofs.YtjopeojnlibagaaGreatDoor
open Go.RowKit Go.Shelf
set_option maxRecDepth 100000
attribute [local go_sem] Oper.semAt_some

/-- The live ones. -/
def liveF (l : List El) : List El := l.filter fun e => decide (e.hd ≤ 0)
theorem liveF_snoc_t {l : List El} {x : El} (h : ¬ x.hd > 0) : liveF (l ++ [x]) = liveF l ++ [x] := by
  unfold liveF
  rw [List.filter_append]
  simp [show x.hd ≤ 0 by omega]
theorem liveF_snoc_f {l : List El} {x : El} (h : x.hd > 0) : liveF (l ++ [x]) = liveF l := by
  unfold liveF
  rw [List.filter_append]
  simp [show ¬ x.hd ≤ 0 by omega]
theorem liveF_le (l : List El) : (liveF l).length ≤ l.length := List.length_filter_le _ _
/-- A boxed list of the live ones of a row, beside blocks of an iterator. -/
def PuI (w : World) (pre : List El) (O : Nat → Prop) (A : World) : Prop := ∃ v, Boxed A w.heap.size 22 v ∧ OwnE w.heap.size v (liveF pre) A ∧ (∀ r, O r → r ≠ w.heap.size ∧ v.ownBlock ≠ some r) ∧ Below w.heap.size w A
theorem puB {b base : Nat} {t : TypeId} {v : Value} {l : List El} {w : World} (h : Boxed w b t v) (h2 : OwnE base v l w) {r : Nat} {o : Obj} (hr : w.heap[r]? = some o) (ho : o.isCells = false) : r ≠ b ∧ v.ownBlock ≠ some r := by
  refine ⟨fun e => ?_, fun e => ?_⟩
  · have h1 : w.heap[b]? = _ := h
    rw [e, h1] at hr
    cases hr
    cases ho
  · rcases h2.2 with ⟨rfl, _⟩ | ⟨g, cap, cur, rfl, _, q5, _⟩
    · cases e
    · have e2 : g = r := by simpa [Value.ownBlock] using e
      subst e2
      rw [q5] at hr
      cases hr
      cases ho
theorem rowForm {W : World} {base size n : Nat} {e : TypeId} {v : Value} {xs : List Value} (h : W.ownsRow base e size v n xs) : ∃ a c, v = .slice a n c := by
  rcases h.2 with ⟨rfl, hn⟩ | ⟨g, cap, cur, rfl, _⟩
  · exact ⟨none, 0, by rw [hn]⟩
  · exact ⟨_, _, rfl⟩
theorem Boxed.not_rowR {W : World} {B base size k : Nat} {t e : TypeId} {u v : Value} {xs : List Value} (h : Boxed W B t u) (hr : W.ownsRow base e size v k xs) (hte : t ≠ e := by decide) : v.ownBlock = none ∨ v.ownBlock ≠ some B := .inr (fun e1 => Boxed.not_row h hte hr e1.symm)
theorem mvGrown {mb D : Nat} {l : List El} {w w' : World} {q : Option (List Deferred)} (h : MvAt mb l w) (hD : w.heap[D]? = some (.deferred q)) (g : w.grownBy w' (some D)) : MvAt mb l w' := by
  obtain ⟨tb, v, R, h1, h2⟩ := h
  refine ⟨tb, v, R, (g.block mb h1.lt (fun e => ?_)).trans h1, h2.kc ⟨g.size, fun k o hk hc _ => (g.block k (Array.getElem?_eq_some_iff.1 hk).1 (fun e => ?_)).trans hk⟩⟩
  · cases e
    rw [show w.heap[mb]? = _ from h1] at hD
    cases hD
  · cases e
    rw [hk] at hD
    cases hD
    cases hc
theorem kpGrown {x D : Nat} {w w3 w4 : World} (h : Kp x w w3) (g : w3.grownBy w4 (some D)) (hD : w.heap.size ≤ D) : Kp x w w4 :=
  ⟨g.os.trans h.os, g.tape.trans h.tape, g.output.trans h.output, Nat.le_trans h.size g.size, fun k hk hne => (g.block k (Nat.lt_of_lt_of_le hk h.size) (by simp; omega)).trans (h.block k hk hne)⟩
theorem infoM : (Tryz.prog.info? 107).map (·.size) = some 2 := by kernel_rfl
theorem wpL_loadMd {ops : Array Oper} {rest : List Oper} {o : Oper} {A : Act} {w : World} {Q : Exit → Act → World → Prop} (hgd : o.guard = none) (x : Operand) (ho : o.op = .load 107 x) {b : Nat} (hx : A.eval x = .pointer (some ⟨b, 0, none⟩)) {c0 c1 : Value} (h : RowAt b #[c0, c1] 107 w)
    (k : wpList Tryz.prog ops Q rest (A.put o.dst (.agg #[c0, c1])) w) : wpList Tryz.prog ops Q (o :: rest) A w :=
  wpList_plain hgd fun _ hK => by
    unfold Oper.wp execOp
    simp only [ho, hx, Instr.loadAt, Instr.sureAddr, Sem.run_bind, Sem.run_pure, Result.andThen_ok, run_loadVar_in h.in Tryz.underlying107 rfl infoM]
    exact hK _ _ k
theorem wpL_storeMd {ops : Array Oper} {rest : List Oper} {o : Oper} {A : Act} {w : World} {Q : Exit → Act → World → Prop} (hgd : o.guard = none) (x y : Operand) (ho : o.op = .store 107 x y) {g t k : Nat} (hx : A.eval x = .pointer (some ⟨g, 0, none⟩)) (hy : A.eval y = .agg #[.pointer (some ⟨t, 0, none⟩), .map (some k)]) {c0 c1 : Value} (h : RowAt g #[c0, c1] 107 w)
    (kk : wpList Tryz.prog ops Q rest (A.put o.dst undef) (w.setRow g #[.pointer (some ⟨t, 0, none⟩), .map (some k)])) : wpList Tryz.prog ops Q (o :: rest) A w :=
  wpList_store_row hgd _ x y ho g #[.pointer (some ⟨t, 0, none⟩), .map (some k)] hx hy _ _ h infoM rfl (by simp [Value.oneCell']) kk

set_option maxHeartbeats 4000000 in
theorem purge_ok {mb : Nat} {l : List El} {w : World} (h : MvAt mb l w) (hl : l.length ≤ 1000000) (hgd : ∀ (i : Nat) (e : El), (liveF l)[i]? = some e → e.Good) (hap : Apart (liveF l)) :
    Calls Tryz.prog 33 #[pv mb] w fun r w' => r = .returned (.int .i64 ((l.length : Int) - (liveF l).length)) ∧ MvAt mb (liveF l) w' ∧ Kp mb w w' := by
  have hMv := h
  obtain ⟨tb, v0, R, hr, ht⟩ := h
  obtain ⟨t, hroot, htb, hA, hels⟩ := ht.root
  have hmb := hr.lt
  have hm0 : w.cell? ⟨mb, 0, none⟩ = some (.pointer (some ⟨tb, 0, none⟩)) := hr.cell 0
  refine calls_out (n := 9) fun F hF => ?_
  have hdd : ∀ k : Nat, (F.depth.isSome = true → 1 ≤ k) := fun k h => by rw [depth_wide hF] at h; cases h
  have k1 : F.fn 33 := fn_wide hF _
  have k2 : F.fn 48 := fn_wide hF _
  have k3 : F.fn 77 := fn_wide hF _
  have k4 : F.fn 63 := fn_wide hF _
  have hro := round_wide hF
  obtain ⟨i0, hi, hz0, hz1, hz2⟩ := info_parts infoEl
  have HAl := hid_of' (fun w' => modelAll_in hF 8 (some ⟨mb, 0, none⟩) w')
  have HS := hid_of' (fun (Bm : Nat) (X : World) (hX : Below w.heap.size w X) (hBm : Bm < X.heap.size) (hc : X.cell? ⟨Bm, 0, none⟩ = some (.pointer (some ⟨mb, 0, none⟩))) =>
    mall_it hF 8 (by omega) Bm mb tb (R := R) (S := fun _ => False) t w X hX hBm (Nat.lt_of_lt_of_le hmb hX.size) (Nat.lt_of_lt_of_le htb hX.size) hc ((hX.cell (p := ⟨mb, 0, none⟩) hmb).trans hm0) ((hX.cell (p := ⟨tb, 1, none⟩) htb).trans hroot) hA (fun _ h => h.elim) (by rw [hels]; omega))
  have HI := hid_of' (fun (l' : Nat) (e : El) (x : World) => CallsIn.inRound l' (calls_in (n := 6) hF (isLive_any e x)))
  have HFw := hid_of' hF
  unfold pv
  clear hF ht hm0 hroot
  refine callsIn_of_wp_marks Tryz.func33 rfl k1 ?_ hro
  simp only [Tryz.ntmps33, List.size_toArray, List.length_cons, List.length_nil, Nat.reduceAdd, Nat.reduceSub, Array.replicate_succ, Array.replicate_zero, List.push_toArray, List.append_toArray, List.nil_append, List.cons_append]
  gi_wp2_with ((try refine ⟨hdd _, ?_⟩); gi_at_call 48; refine (HAl.out _).mono ?_; clear HAl; rintro e w' ⟨rfl, rfl⟩)
  have x0 := (Boxed.new w 22 (.slice none 0 0)).alloc (.cells #[.pointer (some ⟨mb, 0, none⟩)] 25)
  have x1 := Boxed.new (w.alloc (.cells #[.slice none 0 0] 22)) 25 (.pointer (some ⟨mb, 0, none⟩))
  rw [World.size_alloc] at x1
  have hBX := below_two w (.cells #[.slice none 0 0] 22) (.cells #[.pointer (some ⟨mb, 0, none⟩)] 25)
  have hsz : ((w.alloc (.cells #[.slice none 0 0] 22)).alloc (.cells #[.pointer (some ⟨mb, 0, none⟩)] 25)).heap.size = w.heap.size + 2 := by simp
  generalize (w.alloc (.cells #[.slice none 0 0] 22)).alloc (.cells #[.pointer (some ⟨mb, 0, none⟩)] 25) = X at x0 x1 hBX hsz ⊢
  refine wpIn_rangeFunc_itA hro (by omega) (gf := 77) (lb := #[.pointer (some ⟨w.heap.size + 1, 0, none⟩)]) rfl k3 (enters_of Tryz.func77 (by kernel_rfl) rfl)
    (HS.out (w.heap.size + 1) X hBX (by omega) x1.cell) (fun h k g => k (h g)) (fun A A' hg g => g.grown hg (fun _ e => by cases e)) (fun A l' o o' _ hl hcc g => g.grown (grownBy_putObj' A l' o') (fun r e => by cases e; exact .inr (.inr ⟨o, hl, hcc⟩))) (Below.refl _ _) (fun _ => rfl)
    (PuI w) (fun _ _ _ => False) ?bears ?hIx ?h0
    (fun x b => { tmps := #[.pointer (some ⟨mb, 0, none⟩), undef, .int .i64 0, .pointer (some ⟨w.heap.size, 0, none⟩), .pointer (some ⟨b, 0, none⟩), undef, undef, undef, .pointer (some ⟨mb, 0, none⟩), .func (.func 77) #[] #[.pointer (some ⟨w.heap.size + 1, 0, none⟩)], .agg (ev x), undef, undef, undef, undef, undef, undef, undef, undef, undef, undef, undef, undef, undef, undef, undef, undef, undef, undef, undef, undef, undef, undef, undef, undef], defers := [] }) (fun x => .cells (ev x) 66)
    (fun x A => (A.alloc (.cells #[.int .i64 0, .int .i64 0, .int .i64 0, .int .i32 0, .int .i64 0] 66)).setRow A.heap.size (ev x)) ?ax ?assign ?body ?done ?stop
  case bears =>
    rintro pre O O' A A' row ⟨v, hb, hw, ho, hB⟩ hg hr hO
    have hrow : ∀ r, row = some r → r ≠ w.heap.size ∧ v.ownBlock ≠ some r := fun r e => by
      rcases (hr r e).2 with h1 | ⟨o, h1, h2⟩
      · exact ho r h1
      · exact puB hb hw h1 h2
    refine ⟨v, hb.kept hg (fun e => (hrow _ e.symm).1 rfl), ?_, fun r hr' => ?_, hB.grown hg hB.size (fun j e => ?_)⟩
    · refine World.ownsRow.kept hw hg ?_
      cases row with
      | none => exact (by cases v.ownBlock with | none => exact .inl rfl | some q => exact .inr (by simp))
      | some r => exact .inr (hrow r rfl).2
    · rcases hO r hr' with h1 | ⟨h1, _⟩
      · exact ho r h1
      · refine ⟨fun e => ?_, fun e => ?_⟩
        · have := hb.lt; omega
        · have := (hw.lt r e).2; omega
    · have := (hr j e).1
      rw [hsz] at this
      omega
  case hIx =>
    intro c pre A A' row h
    exact h.elim
  case h0 => exact ⟨_, x0, ⟨rfl, .inl ⟨rfl, rfl⟩⟩, fun _ h => h.elim, hBX⟩
  case ax =>
    intro x A
    exact ⟨grown_alloc_row, by simp, (row_new A #[.int .i64 0, .int .i64 0, .int .i64 0, .int .i32 0, .int .i64 0] 66).put (ev x)⟩
  case assign =>
    intro l' x W' K hK
    gi_wp2_with (refine wpLIn_storeE (e := x) rfl _ _ rfl rfl rfl (row_new W' _ _) ?_)
    exact hK
  case body =>
    rintro l' pre x O A b ⟨v, hbx, hw, hov, hB⟩ hpre hO hb2 hb3 hbb
    have hplen : pre.length < l.length := by
      have := hpre.length_le
      rw [hels, List.length_append, List.length_singleton] at this
      exact this
    have rE : RowAt b (ev x) 66 A := hbb
    by_cases hlv : x.hd > 0
    · have HI2 : Hid (∀ y, CallsIn (F.inRound l') 6 Tryz.prog 63 #[.agg (ev x)] y fun r w' => r = .returned (.bool false) ∧ Below y.heap.size y w') := fun y => by
        have := HI.out l' x y
        rw [show decide (x.hd ≤ 0) = false by simp; omega] at this
        exact this
      gi_wp2_with (first | (refine wpLIn_loadE rfl _ rfl rfl rE.in ?_) | ((try refine ⟨hdd _, ?_⟩); gi_at_call 63; refine (HI2.out _).mono ?_; rintro e w2 ⟨rfl, hb4⟩))
      have hBw := bgo hB hb4
      refine ⟨(KeepsFrom.of_grownBy (below_grownV hb4) (fun _ e => by cases e)), fun r hr => ?_, fun _ => KC.of_below hBw, v, RowAt.later hbx hb4, ?_, hov, hBw⟩
      · exact hb4.block r (by have := hO r hr; omega)
      · rw [liveF_snoc_f (by omega)]; exact hw.later hb4
    · have HI2 : Hid (∀ y, CallsIn (F.inRound l') 6 Tryz.prog 63 #[.agg (ev x)] y fun r w' => r = .returned (.bool true) ∧ Below y.heap.size y w') := fun y => by
        have := HI.out l' x y
        rw [show decide (x.hd ≤ 0) = true by simp; omega] at this
        exact this
      have hvl := liveF_le pre
      obtain ⟨a5, c5, rfl⟩ := hw.form
      have hmx : maxLen = 9223372036854775807 := rfl
      have HW := hid_of' hw
      have HLn : Hid ((liveF pre).length + 1 ≤ maxLen ∧ ((liveF pre).length + 1) * i0.bytes ≤ 140737488355328) := ⟨by omega, by rw [hz2]; omega⟩
      gi_wp2_with (first | (refine wpLIn_loadE rfl _ rfl rfl rE.in ?_) | ((try refine ⟨hdd _, ?_⟩); gi_at_call 63; refine (HI2.out _).mono ?_; rintro e w2 ⟨rfl, hb4⟩; have hbx4 : Boxed w2 w.heap.size 22 (.slice a5 (liveF pre).length c5) := RowAt.later hbx hb4; have c3 := hbx4.cell; have rE2 := rE.later hb4; have hs24 := Nat.le_trans hB.size hb4.size; have hwA : Hid ((w2.alloc (.cells (ev x) 66)).ownsRow w.heap.size 66 5 (.slice a5 (liveF pre).length c5) (liveF pre).length (ecells (liveF pre))) := World.ownsRow.alloc (w := w2) (show w2.ownsRow w.heap.size 66 5 (.slice a5 (liveF pre).length c5) (liveF pre).length (ecells (liveF pre)) from HW.out.later hb4) _; have hne4 : some w.heap.size ≠ (Value.slice a5 (liveF pre).length c5).ownBlock := Boxed.not_row (hbx4.alloc (.cells (ev x) 66)) (by decide) hwA.out) | (refine wpLIn_loadE rfl _ rfl rfl rE2.in ?_; unfold ev) | (gi_at_builtin; refine wpListIn_append_own_at _ rfl _ _ 22 rfl w.heap.size 66 i0 _ 5 _ Tryz.underlying22 hi hz0 hz1 rfl rfl (by decide) _ _ _ rfl hwA.out ⟨w2.heap.size, 0, none⟩ 1 1 (ev x).toList rfl rfl (ev_cells w2 x) (by simp [ev, Value.oneCell']) HLn.out.1 HLn.out.2 (by rw [World.size_alloc]; omega) ?_; intro v' w3 hown3 hgr3 _ hat3; obtain ⟨a6, c6, rfl⟩ := rowForm hown3; have hbx3 := (hbx4.alloc (.cells (ev x) 66)).kept hgr3 hne4; have d0 := hbx3.cell; have f0 := hbx3.frozen))
      obtain ⟨v', hv'⟩ : ∃ v', v' = Value.slice a6 ((liveF pre).length + 1) c6 := ⟨_, rfl⟩
      rw [← hv'] at hown3 hat3 ⊢
      have hsA := hb4.size
      have hO4 := HW.out.later hb4
      have hnb : ∀ k, (Value.slice a5 (liveF pre).length c5).ownBlock = some k → w.heap.size ≤ k := fun k e => (hO4.lt k e).1
      have hB3 := ((bgo hB hb4).alloc hs24 (.cells (ev x) 66)).grown hgr3 (by rw [World.size_alloc]; omega) hnb
      have hB2 := hB3.setCell (p := ⟨w.heap.size, 0, none⟩) (Nat.le_refl _) v'
      have same : ∀ r, r < A.heap.size → r ≠ w.heap.size → (Value.slice a5 (liveF pre).length c5).ownBlock ≠ some r → (w3.setCell ⟨w.heap.size, 0, none⟩ v').heap[r]? = A.heap[r]? := fun r h1 h2 h3 => by
        rw [Below.heap_setCell _ _ _ _ h2, hgr3.block r (by rw [World.size_alloc]; omega) (fun e => h3 e.symm), Below.heap_alloc w2 _ r (by omega), hb4.block r h1]
      refine ⟨⟨?_, fun k o _ hk ho => ?_⟩, fun r hr => ?_, fun _ => KC.of_below hB2, v', hbx3.set _, ?_, fun r hr => ?_, hB2⟩
      · have := hgr3.size
        rw [World.size_alloc] at this
        simp
        omega
      · have hz := puB hbx HW.out hk ho
        rw [same k (Array.getElem?_eq_some_iff.1 hk).1 hz.1 hz.2]
        exact hk
      · have hz := hov r hr
        exact same r (by have := hO r hr; omega) hz.1 hz.2
      · rw [liveF_snoc_t (by omega)]
        unfold OwnE
        rw [List.length_append, ecells_app]
        exact World.ownsRow.kept hown3 (grownBy_setCell' w3 _ _) (Boxed.not_rowR hbx3 hown3)
      · have hz := hov r hr
        have hy := hO r hr
        refine ⟨hz.1, fun e => ?_⟩
        rcases hat3 with h1 | h1
        · exact hz.2 (h1.symm.trans e)
        · have h2 : (w2.alloc (.cells (ev x) 66)).heap.size = r := by simpa using h1.symm.trans e
          rw [World.size_alloc] at h2
          omega
  case done =>
    rintro D O W2 hD ⟨v, hbx, hw, _, hB⟩ hK
    rw [hels] at hw
    obtain ⟨a7, c7, rfl⟩ := hw.form
    have hvl := liveF_le l
    have hF := HFw.out
    clear HS HI hdd k1 k2 k3 k4 HFw
    have HF2 := hid_of' hF
    clear hF
    gi_upto_region 6 with fail
    have hF := HF2.out
    clear HF2
    subst hF
    refine wpIn_wide.2 ?_
    have hMv2 := hMv.later hB
    have hbxR : RowAt w.heap.size #[.slice a7 (liveF l).length c7] 22 W2 := hbx
    have cb : ∀ s : Wld W2, (wOf s).cell? ⟨w.heap.size, 0, none⟩ = some (.slice a7 (liveF l).length c7) := fun s => hbxR.cls 0 _ rfl s
    have hBw := hid_of' hB
    have HW := hid_of' hw
    have HK := hid_of' hK
    have hr2 := hr.later hB
    clear hB hw hK hbx hA
    have hB : Below W2.heap.size W2 W2 := Below.refl _ _
    obtain ⟨n, hn⟩ : ∃ n, (liveF l).length = n := ⟨_, rfl⟩
    obtain ⟨m, hm⟩ : ∃ m, l.length = m := ⟨_, rfl⟩
    have HN : Hid (∀ x, Below W2.heap.size W2 x → Calls Tryz.prog 47 #[.pointer (some ⟨mb, 0, none⟩)] x fun r w' => r = .returned (.int .i64 (m : Int)) ∧ w' = x) := fun x hx => by rw [← hm]; exact lenMv_ok (hMv2.later hx)
    rw [hn] at hbxR cb
    rw [hn, hm] at hvl
    rw [hm] at hl
    have hnm : Hid ((liveF l).length = n ∧ l.length = m) := ⟨hn, hm⟩
    clear hn hm
    go_upto_region 6 with fail
    refine wp_region_cls (by kernel_rfl) (by kernel_rfl) ?_
    repeat (first | go_big_quiet_skip | (go_big_quiet_want; first | (go_big_quiet_op; first | go_big_quiet_on | go_big_quiet_call ((go_at_call 47; exact cls_of_same (HN.out _ (wOf_below _)))))))
    refine wpQuiet_nil ?_
    rintro w1 ⟨s1, e1⟩
    have hb1 := wOf_below s1
    rw [← e1] at hb1
    clear e1 s1
    replace hbxR := hbxR.later hb1
    replace hB := bgo hB hb1
    clear hb1
    rename_i hkont
    refine hkont _ _ ?_
    refine wpIn_wide.2 ?_
    clear hkont HN cb
    have hW1 := HW.out.later hB
    have hK1 : w1.heap[D]? = some (.deferred (some [])) := (hB.block D (Array.getElem?_eq_some_iff.1 HK.out).1).trans HK.out
    have hBw1 := bgo hBw.out hB
    have cb := hbxR.cell 0
    have hMv1 := hMv.later hBw1
    have hDw : w.heap.size ≤ D := by omega
    have hP := hr2.later hB
    clear HW HK hBw hB hr2 hMv2
    by_cases hlt : n < m
    · have h0 : 0 < (m : Int) - (n : Int) := by omega
      have HO := hid_of' (of_okX hW1.sl (by have := hnm.out.1; omega) hgd hap)
      rw [hnm.out.1] at HO
      unfold pv at HO
      go_wp2_with (first | (go_at_call 34; refine HO.out.mono ?_; rintro r w2 ⟨mb', tb', kb', n', R', _, hno, rfl, z1, z2, z3, hMd, hb2⟩; clear HO; have hP2 := hP.later hb2; have hM2 : RowAt mb' #[.pointer (some ⟨tb', 0, none⟩), .map (some kb')] 107 w2 := hMd.row) | (refine wpL_loadMd rfl _ rfl rfl hM2 ?_) | (refine wpL_storeMd rfl _ _ rfl rfl rfl hP2 ?_))
      have hb12 := bgo hBw1 hb2
      have hmb2 := hr.later hb12
      have hK2 : w2.heap[D]? = some (.deferred (some [])) := (hb2.block D (Array.getElem?_eq_some_iff.1 hK1).1).trans hK1
      have hne : ¬ D = mb := by omega
      have hK3 : (w2.setRow mb #[.pointer (some ⟨tb', 0, none⟩), .map (some kb')]).heap[D]? = some (.deferred (some [])) := (setRow_other w2 mb D _ hne).trans hK2
      have hsz1 := hBw1.size
      have hMv3 : MvAt mb (liveF l) (w2.setRow mb #[.pointer (some ⟨tb', 0, none⟩), .map (some kb')]) := ⟨tb', .map (some kb'), R', hP2.put _, hMd.tree.kp (hno mb (by omega)) hP2 (by decide) (Kp.row mb _) (by omega)⟩
      have hkp3 : Kp mb w (w2.setRow mb #[.pointer (some ⟨tb', 0, none⟩), .map (some kb')]) := (Kp.of hb12).trans (Kp.row mb _)
      generalize w2.setRow mb #[.pointer (some ⟨tb', 0, none⟩), .map (some kb')] = w3 at hK3 hMv3 hkp3 ⊢
      refine ⟨by simp, .inl ⟨_, _, rfl, run_takeDeferred hK3, ?_⟩⟩
      exact ⟨_, results_tmp rfl _ _ _, by rw [hnm.out.1, hnm.out.2]; rfl, mvGrown hMv3 hK3 (grownBy_putObj' w3 D _), kpGrown hkp3 (grownBy_putObj' w3 D _) hDw⟩
    · have hnm2 : n = m := by omega
      subst hnm2
      have h0 : (n : Int) - (n : Int) = 0 := by omega
      rw [h0]
      go_wp2
      have hle : liveF l = l := (List.filter_sublist).eq_of_length (hnm.out.1.trans hnm.out.2.symm)
      refine ⟨by simp, .inl ⟨_, _, rfl, run_takeDeferred hK1, ?_⟩⟩
      exact ⟨_, results_tmp rfl _ _ _, by rw [hnm.out.1, hnm.out.2, h0]; rfl, by rw [hle]; exact mvGrown hMv1 hK1 (grownBy_putObj' w1 D _), kpGrown (Kp.of hBw1) (grownBy_putObj' w1 D _) hDw⟩
  case stop =>
    rintro D c pre W _ _ h _
    exact h.elim
end Go.Proofs.YtjopeojnlibagaaGreatDoor
namespace Go.Proofs.YtjopeojnlibagaaGreatDoor
open Go.RowKit Go.Extern.Stop Go.Stop Go.Extern
set_option maxRecDepth 100000

theorem liveF_two (l : List El) : liveF (liveF l) = liveF l := by unfold liveF; simp
theorem liveF_vis : ∀ l : List El, vis (liveF l) = vis l
  | [] => rfl
  | e :: l => by
    have ih := liveF_vis l
    by_cases h : e.hd > 0
    · rw [vis_hid _ h, ← ih]
      unfold liveF
      rw [List.filter_cons, if_neg (by simp; omega)]
    · rw [vis_live _ h, ← ih]
      unfold liveF
      rw [List.filter_cons, if_pos (by simp; omega), vis_live _ h]
theorem liveF_len : ∀ l : List El, ((liveF l).length : Int) = liveL l
  | [] => rfl
  | e :: l => by
    have ih := liveF_len l
    unfold liveF at ih ⊢
    rw [List.filter_cons]
    simp only [liveL, wLive]
    by_cases h : e.hd > 0
    · rw [if_neg (by simp; omega), if_pos h, ih]; omega
    · rw [if_pos (by simp; omega), if_neg h, List.length_cons]
      omega
theorem liveF_live (l : List El) : liveL (liveF l) = ((liveF l).length : Int) := by rw [← liveF_len, liveF_two]
theorem liveF_good {l : List El} (h : ∀ e ∈ l, e.Good) (i : Nat) (e : El) (he : (liveF l)[i]? = some e) : e.Good := h e (List.mem_filter.1 (List.mem_of_getElem? he)).1
theorem apart_pair {l : List El} (h : Apart l) : l.Pairwise fun x y => x.id ≠ y.id := by
  rw [List.pairwise_iff_getElem]
  intro i j hi hj hij
  exact h i j _ _ hij (List.getElem?_eq_getElem hi) (List.getElem?_eq_getElem hj)
theorem pair_apart {l : List El} (h : l.Pairwise fun x y => x.id ≠ y.id) : Apart l := by
  intro i j x y hij hx hy
  rw [List.pairwise_iff_getElem] at h
  obtain ⟨h1, rfl⟩ := List.getElem?_eq_some_iff.1 hx
  obtain ⟨h2, rfl⟩ := List.getElem?_eq_some_iff.1 hy
  exact h i j h1 h2 hij
theorem liveF_apart {l : List El} (h : Apart l) : Apart (liveF l) := pair_apart ((apart_pair h).filter _)
theorem refLive_any (e : El) (w : World) : Calls Tryz.prog 29 #[.agg (ev e)] w fun r w' => r = .returned (.bool (decide (e.hd ≤ 0))) ∧ Below w.heap.size w w' := by
  have c4 : (w.alloc (.cells (ev e) 66)).cell? ⟨w.heap.size, 4, none⟩ = some (.int .i64 e.hd) := (row_new w (ev e) 66).cell 4
  go_enter Tryz.func29, Tryz.ntmps29
  go_wp2
  go_ret
  exact ⟨rfl, below_one w _⟩
end Go.Proofs.YtjopeojnlibagaaGreatDoor
namespace Go.Proofs.YtjopeojnlibagaaGreatDoor
open Go.RowKit Go.Extern.Stop Go.Stop Go.Extern
set_option maxRecDepth 100000

end Go.Proofs.YtjopeojnlibagaaGreatDoor
