
/-
  (*Model).Purge. barrowref05.Purge; what Purge leaves. barrowlaw05.ModelPurge.
-/
import Derived.Test.YtmhijdoojkbcjaaGreatDoorMbA
import Derived.Test.YtmhijdoojkbcjaaGreatDoorVwZ
import Derived.RangeFuncCalls
import Derived.Sort.CutIn
import Derived.Maps.OwnIn
namespace Go.Proofs.YtmhijdoojkbcjaaGreatDoor
open Go.RowKit Go.Shelf
set_option maxRecDepth 100000
attribute [local go_sem] Oper.semAt_some

/-- The live ones. -/
def liveF (l : List El) : List El := l.filter fun e => decide (e.hd ≤ 0)
theorem liveF_snoc_t {l : List El} {x : El} (h : ¬ x.hd > 0) : liveF (l ++ [x]) = liveF l ++ [x] := by
  unfold liveF
  rw [List.filter_append]
  simp [show x.hd ≤ 0 by omega]
theorem liveF_snoc_f {l : List El} {x : El} (h : x.hd > 0) : liveF (l ++ [x]) = liveF l := by
  unfold liveF
  rw [List.filter_append]
  simp [show ¬ x.hd ≤ 0 by omega]
theorem liveF_le (l : List El) : (liveF l).length ≤ l.length := List.length_filter_le _ _
/-- A boxed list of the live ones of a row, beside blocks of an iterator. -/
def PuI (w : World) (pre : List El) (O : Nat → Prop) (A : World) : Prop := ∃ v, Boxed A w.heap.size 22 v ∧ OwnE w.heap.size v (liveF pre) A ∧ (∀ r, O r → r ≠ w.heap.size ∧ v.ownBlock ≠ some r) ∧ Below w.heap.size w A
theorem puB {b base : Nat} {t : TypeId} {v : Value} {l : List El} {w : World} (h : Boxed w b t v) (h2 : OwnE base v l w) {r : Nat} {o : Obj} (hr : w.heap[r]? = some o) (ho : o.isCells = false) : r ≠ b ∧ v.ownBlock ≠ some r := by
  refine ⟨fun e => ?_, fun e => ?_⟩
  · have h1 : w.heap[b]? = _ := h
    rw [e, h1] at hr
    cases hr
    cases ho
  · rcases h2.2 with ⟨rfl, _⟩ | ⟨g, cap, cur, rfl, _, q5, _⟩
    · cases e
    · have e2 : g = r := by simpa [Value.ownBlock] using e
      subst e2
      rw [q5] at hr
      cases hr
      cases ho
theorem rowForm {W : World} {base size n : Nat} {e : TypeId} {v : Value} {xs : List Value} (h : W.ownsRow base e size v n xs) : ∃ a c, v = .slice a n c := by
  rcases h.2 with ⟨rfl, hn⟩ | ⟨g, cap, cur, rfl, _⟩
  · exact ⟨none, 0, by rw [hn]⟩
  · exact ⟨_, _, rfl⟩
theorem Boxed.not_rowR {W : World} {B base size k : Nat} {t e : TypeId} {u v : Value} {xs : List Value} (h : Boxed W B t u) (hr : W.ownsRow base e size v k xs) (hte : t ≠ e := by decide) : v.ownBlock = none ∨ v.ownBlock ≠ some B := .inr (fun e1 => Boxed.not_row h hte hr e1.symm)
theorem mvGrown {mb D : Nat} {l : List El} {w w' : World} {q : Option (List Deferred)} (h : MvAt mb l w) (hD : w.heap[D]? = some (.deferred q)) (g : w.grownBy w' (some D)) : MvAt mb l w' := by
  obtain ⟨tb, v, R, h1, h2⟩ := h
  refine ⟨tb, v, R, (g.block mb h1.lt (fun e => ?_)).trans h1, h2.kc ⟨g.size, fun k o hk hc _ => (g.block k (Array.getElem?_eq_some_iff.1 hk).1 (fun e => ?_)).trans hk⟩⟩
  · cases e
    rw [show w.heap[mb]? = _ from h1] at hD
    cases hD
  · cases e
    rw [hk] at hD
    cases hD
    cases hc
theorem kpGrown {x D : Nat} {w w3 w4 : World} (h : Kp x w w3) (g : w3.grownBy w4 (some D)) (hD : w.heap.size ≤ D) : Kp x w w4 :=
  ⟨g.os.trans h.os, g.tape.trans h.tape, g.output.trans h.output, Nat.le_trans h.size g.size, fun k hk hne => (g.block k (Nat.lt_of_lt_of_le hk h.size) (by simp; omega)).trans (h.block k hk hne)⟩
theorem infoM : (Tryz.prog.info? 71).map (·.size) = some 2 := by kernel_rfl
theorem wpL_loadMd {ops : Array Oper} {rest : List Oper} {o : Oper} {A : Act} {w : World} {Q : Exit → Act → World → Prop} (hgd : o.guard = none) (x : Operand) (ho : o.op = .load 71 x) {b : Nat} (hx : A.eval x = .pointer (some ⟨b, 0, none⟩)) {c0 c1 : Value} (h : RowAt b #[c0, c1] 71 w)
    (k : wpList Tryz.prog ops Q rest (A.put o.dst (.agg #[c0, c1])) w) : wpList Tryz.prog ops Q (o :: rest) A w :=
  wpList_plain hgd fun _ hK => by
    unfold Oper.wp execOp
    simp only [ho, hx, Instr.loadAt, Instr.sureAddr, Sem.run_bind, Sem.run_pure, Result.andThen_ok, run_loadVar_in h.in Tryz.underlying71 rfl infoM]
    exact hK _ _ k
theorem wpL_storeMd {ops : Array Oper} {rest : List Oper} {o : Oper} {A : Act} {w : World} {Q : Exit → Act → World → Prop} (hgd : o.guard = none) (x y : Operand) (ho : o.op = .store 71 x y) {g t k : Nat} (hx : A.eval x = .pointer (some ⟨g, 0, none⟩)) (hy : A.eval y = .agg #[.pointer (some ⟨t, 0, none⟩), .map (some k)]) {c0 c1 : Value} (h : RowAt g #[c0, c1] 71 w)
    (kk : wpList Tryz.prog ops Q rest (A.put o.dst undef) (w.setRow g #[.pointer (some ⟨t, 0, none⟩), .map (some k)])) : wpList Tryz.prog ops Q (o :: rest) A w :=
  wpList_store_row hgd _ x y ho g #[.pointer (some ⟨t, 0, none⟩), .map (some k)] hx hy _ _ h infoM rfl (by simp [Value.oneCell']) kk

set_option maxHeartbeats 4000000 in
theorem purge_ok {mb : Nat} {l : List El} {w : World} (h : MvAt mb l w) (hl : l.length ≤ 1000000) (hgd : ∀ (i : Nat) (e : El), (liveF l)[i]? = some e → e.Good) (hap : Apart (liveF l)) :
    Calls Tryz.prog 23 #[pv mb] w fun r w' => r = .returned (.int .i64 ((l.length : Int) - (liveF l).length)) ∧ MvAt mb (liveF l) w' ∧ Kp mb w w' := by
  have hMv := h
  obtain ⟨tb, v0, R, hr, ht⟩ := h
  obtain ⟨t, hroot, htb, hA, hels⟩ := ht.root
  have hmb := hr.lt
  have hm0 : w.cell? ⟨mb, 0, none⟩ = some (.pointer (some ⟨tb, 0, none⟩)) := hr.cell 0
  refine calls_out (n := 9) fun F hF => ?_
  have hdd : ∀ k : Nat, (F.depth.isSome = true → 1 ≤ k) := fun k h => by rw [depth_wide hF] at h; cases h
  have k1 : F.fn 23 := fn_wide hF _
  have k2 : F.fn 38 := fn_wide hF _
  have k3 : F.fn 65 := fn_wide hF _
  have k4 : F.fn 36 := fn_wide hF _
  have hro := round_wide hF
  obtain ⟨i0, hi, hz0, hz1, hz2⟩ := info_parts infoEl
  have HAl := hid_of' (fun w' => modelAll_in hF 8 (some ⟨mb, 0, none⟩) w')
  have HS := hid_of' (fun (Bm : Nat) (X : World) (hX : Below w.heap.size w X) (hBm : Bm < X.heap.size) (hc : X.cell? ⟨Bm, 0, none⟩ = some (.pointer (some ⟨mb, 0, none⟩))) =>
    mall_it hF 8 (by omega) Bm mb tb (R := R) (S := fun _ => False) t w X hX hBm (Nat.lt_of_lt_of_le hmb hX.size) (Nat.lt_of_lt_of_le htb hX.size) hc ((hX.cell (p := ⟨mb, 0, none⟩) hmb).trans hm0) ((hX.cell (p := ⟨tb, 1, none⟩) htb).trans hroot) hA (fun _ h => h.elim) (by rw [hels]; omega))
  have HI := hid_of' (fun (l' : Nat) (e : El) (x : World) => CallsIn.inRound l' (calls_in (n := 6) hF (isLive_any e x)))
  have HFw := hid_of' hF
  unfold pv
  clear hF ht hm0 hroot
  refine callsIn_of_wp_marks Tryz.func23 rfl k1 ?_ hro
  simp only [Tryz.ntmps23, List.size_toArray, List.length_cons, List.length_nil, Nat.reduceAdd, Nat.reduceSub, Array.replicate_succ, Array.replicate_zero, List.push_toArray, List.append_toArray, List.nil_append, List.cons_append]
  gi_wp2_with ((try refine ⟨hdd _, ?_⟩); gi_at_call 38; refine (HAl.out _).mono ?_; clear HAl; rintro e w' ⟨rfl, rfl⟩)
  have x0 := (Boxed.new w 22 (.slice none 0 0)).alloc (.cells #[.pointer (some ⟨mb, 0, none⟩)] 27)
  have x1 := Boxed.new (w.alloc (.cells #[.slice none 0 0] 22)) 27 (.pointer (some ⟨mb, 0, none⟩))
  rw [World.size_alloc] at x1
  have hBX := below_two w (.cells #[.slice none 0 0] 22) (.cells #[.pointer (some ⟨mb, 0, none⟩)] 27)
  have hsz : ((w.alloc (.cells #[.slice none 0 0] 22)).alloc (.cells #[.pointer (some ⟨mb, 0, none⟩)] 27)).heap.size = w.heap.size + 2 := by simp
  generalize (w.alloc (.cells #[.slice none 0 0] 22)).alloc (.cells #[.pointer (some ⟨mb, 0, none⟩)] 27) = X at x0 x1 hBX hsz ⊢
  refine wpIn_rangeFunc_itA hro (by omega) (gf := 65) (lb := #[.pointer (some ⟨w.heap.size + 1, 0, none⟩)]) rfl k3 (enters_of Tryz.func65 (by kernel_rfl) rfl)
    (HS.out (w.heap.size + 1) X hBX (by omega) x1.cell) (fun h k g => k (h g)) (fun A A' hg g => g.grown hg (fun _ e => by cases e)) (fun A l' o o' _ hl hcc g => g.grown (grownBy_putObj' A l' o') (fun r e => by cases e; exact .inr (.inr ⟨o, hl, hcc⟩))) (Below.refl _ _) (fun _ => rfl)
    (PuI w) (fun _ _ _ => False) ?bears ?hIx ?h0
    (fun x b => { tmps := #[.pointer (some ⟨mb, 0, none⟩), undef, .int .i64 0, .pointer (some ⟨w.heap.size, 0, none⟩), .pointer (some ⟨b, 0, none⟩), undef, undef, undef, .pointer (some ⟨mb, 0, none⟩), .func (.func 65) #[] #[.pointer (some ⟨w.heap.size + 1, 0, none⟩)], .agg (ev x), undef, undef, undef, undef, undef, undef, undef, undef, undef, undef, undef, undef, undef, undef, undef, undef, undef, undef, undef, undef, undef, undef, undef, undef], defers := [] }) (fun x => .cells (ev x) 41)
    (fun x A => (A.alloc (.cells #[.int .i64 0, .int .i64 0, .int .i64 0, .int .i32 0, .int .i64 0] 41)).setRow A.heap.size (ev x)) ?ax ?assign ?body ?done ?stop
  case bears =>
    rintro pre O O' A A' row ⟨v, hb, hw, ho, hB⟩ hg hr hO
    have hrow : ∀ r, row = some r → r ≠ w.heap.size ∧ v.ownBlock ≠ some r := fun r e => by
      rcases (hr r e).2 with h1 | ⟨o, h1, h2⟩
      · exact ho r h1
      · exact puB hb hw h1 h2
    refine ⟨v, hb.kept hg (fun e => (hrow _ e.symm).1 rfl), ?_, fun r hr' => ?_, hB.grown hg hB.size (fun j e => ?_)⟩
    · refine World.ownsRow.kept hw hg ?_
      cases row with
      | none => exact (by cases v.ownBlock with | none => exact .inl rfl | some q => exact .inr (by simp))
      | some r => exact .inr (hrow r rfl).2
    · rcases hO r hr' with h1 | ⟨h1, _⟩
      · exact ho r h1
      · refine ⟨fun e => ?_, fun e => ?_⟩
        · have := hb.lt; omega
        · have := (hw.lt r e).2; omega
    · have := (hr j e).1
      rw [hsz] at this
      omega
  case hIx =>
    intro c pre A A' row h
    exact h.elim
  case h0 => exact ⟨_, x0, ⟨rfl, .inl ⟨rfl, rfl⟩⟩, fun _ h => h.elim, hBX⟩
  case ax =>
    intro x A
    exact ⟨grown_alloc_row, by simp, (row_new A #[.int .i64 0, .int .i64 0, .int .i64 0, .int .i32 0, .int .i64 0] 41).put (ev x)⟩
  case assign =>
    intro l' x W' K hK
    gi_wp2_with (refine wpLIn_storeE (e := x) rfl _ _ rfl rfl rfl (row_new W' _ _) ?_)
    exact hK
  case body =>
    rintro l' pre x O A b ⟨v, hbx, hw, hov, hB⟩ hpre hO hb2 hb3 hbb
    have hplen : pre.length < l.length := by
      have := hpre.length_le
      rw [hels, List.length_append, List.length_singleton] at this
      exact this
    have rE : RowAt b (ev x) 41 A := hbb
    by_cases hlv : x.hd > 0
    · have HI2 : Hid (∀ y, CallsIn (F.inRound l') 6 Tryz.prog 36 #[.agg (ev x)] y fun r w' => r = .returned (.bool false) ∧ Below y.heap.size y w') := fun y => by
        have := HI.out l' x y
        rw [show decide (x.hd ≤ 0) = false by simp; omega] at this
        exact this
      gi_wp2_with (first | (refine wpLIn_loadE rfl _ rfl rfl rE.in ?_) | ((try refine ⟨hdd _, ?_⟩); gi_at_call 36; refine (HI2.out _).mono ?_; rintro e w2 ⟨rfl, hb4⟩))
      have hBw := bgo hB hb4
      refine ⟨(KeepsFrom.of_grownBy (below_grownV hb4) (fun _ e => by cases e)), fun r hr => ?_, fun _ => KC.of_below hBw, v, RowAt.later hbx hb4, ?_, hov, hBw⟩
      · exact hb4.block r (by have := hO r hr; omega)
      · rw [liveF_snoc_f (by omega)]; exact hw.later hb4
    · have HI2 : Hid (∀ y, CallsIn (F.inRound l') 6 Tryz.prog 36 #[.agg (ev x)] y fun r w' => r = .returned (.bool true) ∧ Below y.heap.size y w') := fun y => by
        have := HI.out l' x y
        rw [show decide (x.hd ≤ 0) = true by simp; omega] at this
        exact this
      have hvl := liveF_le pre
      obtain ⟨a5, c5, rfl⟩ := hw.form
      have hmx : maxLen = 9223372036854775807 := rfl
      have HW := hid_of' hw
      have HLn : Hid ((liveF pre).length + 1 ≤ maxLen ∧ ((liveF pre).length + 1) * i0.bytes ≤ 140737488355328) := ⟨by omega, by rw [hz2]; omega⟩
      gi_wp2_with (first | (refine wpLIn_loadE rfl _ rfl rfl rE.in ?_) | ((try refine ⟨hdd _, ?_⟩); gi_at_call 36; refine (HI2.out _).mono ?_; rintro e w2 ⟨rfl, hb4⟩; have hbx4 : Boxed w2 w.heap.size 22 (.slice a5 (liveF pre).length c5) := RowAt.later hbx hb4; have c3 := hbx4.cell; have rE2 := rE.later hb4; have hs24 := Nat.le_trans hB.size hb4.size; have hwA : Hid ((w2.alloc (.cells (ev x) 41)).ownsRow w.heap.size 41 5 (.slice a5 (liveF pre).length c5) (liveF pre).length (ecells (liveF pre))) := World.ownsRow.alloc (w := w2) (show w2.ownsRow w.heap.size 41 5 (.slice a5 (liveF pre).length c5) (liveF pre).length (ecells (liveF pre)) from HW.out.later hb4) _; have hne4 : some w.heap.size ≠ (Value.slice a5 (liveF pre).length c5).ownBlock := Boxed.not_row (hbx4.alloc (.cells (ev x) 41)) (by decide) hwA.out) | (refine wpLIn_loadE rfl _ rfl rfl rE2.in ?_; unfold ev) | (gi_at_builtin; refine wpListIn_append_own_at _ rfl _ _ 22 rfl w.heap.size 41 i0 _ 5 _ Tryz.underlying22 hi hz0 hz1 rfl rfl (by decide) _ _ _ rfl hwA.out ⟨w2.heap.size, 0, none⟩ 1 1 (ev x).toList rfl rfl (ev_cells w2 x) (by simp [ev, Value.oneCell']) HLn.out.1 HLn.out.2 (by rw [World.size_alloc]; omega) ?_; intro v' w3 hown3 hgr3 _ hat3; obtain ⟨a6, c6, rfl⟩ := rowForm hown3; have hbx3 := (hbx4.alloc (.cells (ev x) 41)).kept hgr3 hne4; have d0 := hbx3.cell; have f0 := hbx3.frozen))
      obtain ⟨v', hv'⟩ : ∃ v', v' = Value.slice a6 ((liveF pre).length + 1) c6 := ⟨_, rfl⟩
      rw [← hv'] at hown3 hat3 ⊢
      have hsA := hb4.size
      have hO4 := HW.out.later hb4
      have hnb : ∀ k, (Value.slice a5 (liveF pre).length c5).ownBlock = some k → w.heap.size ≤ k := fun k e => (hO4.lt k e).1
      have hB3 := ((bgo hB hb4).alloc hs24 (.cells (ev x) 41)).grown hgr3 (by rw [World.size_alloc]; omega) hnb
      have hB2 := hB3.setCell (p := ⟨w.heap.size, 0, none⟩) (Nat.le_refl _) v'
      have same : ∀ r, r < A.heap.size → r ≠ w.heap.size → (Value.slice a5 (liveF pre).length c5).ownBlock ≠ some r → (w3.setCell ⟨w.heap.size, 0, none⟩ v').heap[r]? = A.heap[r]? := fun r h1 h2 h3 => by
        rw [Below.heap_setCell _ _ _ _ h2, hgr3.block r (by rw [World.size_alloc]; omega) (fun e => h3 e.symm), Below.heap_alloc w2 _ r (by omega), hb4.block r h1]
      refine ⟨⟨?_, fun k o _ hk ho => ?_⟩, fun r hr => ?_, fun _ => KC.of_below hB2, v', hbx3.set _, ?_, fun r hr => ?_, hB2⟩
      · have := hgr3.size
        rw [World.size_alloc] at this
        simp
        omega
      · have hz := puB hbx HW.out hk ho
        rw [same k (Array.getElem?_eq_some_iff.1 hk).1 hz.1 hz.2]
        exact hk
      · have hz := hov r hr
        exact same r (by have := hO r hr; omega) hz.1 hz.2
      · rw [liveF_snoc_t (by omega)]
        unfold OwnE
        rw [List.length_append, ecells_app]
        exact World.ownsRow.kept hown3 (grownBy_setCell' w3 _ _) (Boxed.not_rowR hbx3 hown3)
      · have hz := hov r hr
        have hy := hO r hr
        refine ⟨hz.1, fun e => ?_⟩
        rcases hat3 with h1 | h1
        · exact hz.2 (h1.symm.trans e)
        · have h2 : (w2.alloc (.cells (ev x) 41)).heap.size = r := by simpa using h1.symm.trans e
          rw [World.size_alloc] at h2
          omega
  case done =>
    rintro D O W2 hD ⟨v, hbx, hw, _, hB⟩ hK
    rw [hels] at hw
    obtain ⟨a7, c7, rfl⟩ := hw.form
    have hvl := liveF_le l
    have hF := HFw.out
    clear HS HI hdd k1 k2 k3 k4 HFw
    have HF2 := hid_of' hF
    clear hF
    gi_upto_region 6 with fail
    have hF := HF2.out
    clear HF2
    subst hF
    refine wpIn_wide.2 ?_
    have hMv2 := hMv.later hB
    have hbxR : RowAt w.heap.size #[.slice a7 (liveF l).length c7] 22 W2 := hbx
    have cb : ∀ s : Wld W2, (wOf s).cell? ⟨w.heap.size, 0, none⟩ = some (.slice a7 (liveF l).length c7) := fun s => hbxR.cls 0 _ rfl s
    have hBw := hid_of' hB
    have HW := hid_of' hw
    have HK := hid_of' hK
    have hr2 := hr.later hB
    clear hB hw hK hbx hA
    have hB : Below W2.heap.size W2 W2 := Below.refl _ _
    obtain ⟨n, hn⟩ : ∃ n, (liveF l).length = n := ⟨_, rfl⟩
    obtain ⟨m, hm⟩ : ∃ m, l.length = m := ⟨_, rfl⟩
    have HN : Hid (∀ x, Below W2.heap.size W2 x → Calls Tryz.prog 12 #[.pointer (some ⟨mb, 0, none⟩)] x fun r w' => r = .returned (.int .i64 (m : Int)) ∧ w' = x) := fun x hx => by rw [← hm]; exact lenMv_ok (hMv2.later hx)
    rw [hn] at hbxR cb
    rw [hn, hm] at hvl
    rw [hm] at hl
    have hnm : Hid ((liveF l).length = n ∧ l.length = m) := ⟨hn, hm⟩
    clear hn hm
    go_upto_region 6 with fail
    refine wp_region_cls (by kernel_rfl) (by kernel_rfl) ?_
    repeat (first | go_big_quiet_skip | (go_big_quiet_want; first | (go_big_quiet_op; first | go_big_quiet_on | go_big_quiet_call ((go_at_call 12; exact cls_of_same (HN.out _ (wOf_below _)))))))
    refine wpQuiet_nil ?_
    rintro w1 ⟨s1, e1⟩
    have hb1 := wOf_below s1
    rw [← e1] at hb1
    clear e1 s1
    replace hbxR := hbxR.later hb1
    replace hB := bgo hB hb1
    clear hb1
    rename_i hkont
    refine hkont _ _ ?_
    refine wpIn_wide.2 ?_
    clear hkont HN cb
    have hW1 := HW.out.later hB
    have hK1 : w1.heap[D]? = some (.deferred (some [])) := (hB.block D (Array.getElem?_eq_some_iff.1 HK.out).1).trans HK.out
    have hBw1 := bgo hBw.out hB
    have cb := hbxR.cell 0
    have hMv1 := hMv.later hBw1
    have hDw : w.heap.size ≤ D := by omega
    have hP := hr2.later hB
    clear HW HK hBw hB hr2 hMv2
    by_cases hlt : n < m
    · have h0 : 0 < (m : Int) - (n : Int) := by omega
      have HO := hid_of' (of_okX hW1.sl (by have := hnm.out.1; omega) hgd hap)
      rw [hnm.out.1] at HO
      unfold pv at HO
      go_wp2_with (first | (go_at_call 27; refine HO.out.mono ?_; rintro r w2 ⟨mb', tb', kb', n', R', _, hno, rfl, z1, z2, z3, hMd, hb2⟩; clear HO; have hP2 := hP.later hb2; have hM2 : RowAt mb' #[.pointer (some ⟨tb', 0, none⟩), .map (some kb')] 71 w2 := hMd.row) | (refine wpL_loadMd rfl _ rfl rfl hM2 ?_) | (refine wpL_storeMd rfl _ _ rfl rfl rfl hP2 ?_))
      have hb12 := bgo hBw1 hb2
      have hmb2 := hr.later hb12
      have hK2 : w2.heap[D]? = some (.deferred (some [])) := (hb2.block D (Array.getElem?_eq_some_iff.1 hK1).1).trans hK1
      have hne : ¬ D = mb := by omega
      have hK3 : (w2.setRow mb #[.pointer (some ⟨tb', 0, none⟩), .map (some kb')]).heap[D]? = some (.deferred (some [])) := (setRow_other w2 mb D _ hne).trans hK2
      have hsz1 := hBw1.size
      have hMv3 : MvAt mb (liveF l) (w2.setRow mb #[.pointer (some ⟨tb', 0, none⟩), .map (some kb')]) := ⟨tb', .map (some kb'), R', hP2.put _, hMd.tree.kp (hno mb (by omega)) hP2 (by decide) (Kp.row mb _) (by omega)⟩
      have hkp3 : Kp mb w (w2.setRow mb #[.pointer (some ⟨tb', 0, none⟩), .map (some kb')]) := (Kp.of hb12).trans (Kp.row mb _)
      generalize w2.setRow mb #[.pointer (some ⟨tb', 0, none⟩), .map (some kb')] = w3 at hK3 hMv3 hkp3 ⊢
      refine ⟨by simp, .inl ⟨_, _, rfl, run_takeDeferred hK3, ?_⟩⟩
      exact ⟨_, results_tmp rfl _ _ _, by rw [hnm.out.1, hnm.out.2]; rfl, mvGrown hMv3 hK3 (grownBy_putObj' w3 D _), kpGrown hkp3 (grownBy_putObj' w3 D _) hDw⟩
    · have hnm2 : n = m := by omega
      subst hnm2
      have h0 : (n : Int) - (n : Int) = 0 := by omega
      rw [h0]
      go_wp2
      have hle : liveF l = l := (List.filter_sublist).eq_of_length (hnm.out.1.trans hnm.out.2.symm)
      refine ⟨by simp, .inl ⟨_, _, rfl, run_takeDeferred hK1, ?_⟩⟩
      exact ⟨_, results_tmp rfl _ _ _, by rw [hnm.out.1, hnm.out.2, h0]; rfl, by rw [hle]; exact mvGrown hMv1 hK1 (grownBy_putObj' w1 D _), kpGrown (Kp.of hBw1) (grownBy_putObj' w1 D _) hDw⟩
  case stop =>
    rintro D c pre W _ _ h _
    exact h.elim
end Go.Proofs.YtmhijdoojkbcjaaGreatDoor
namespace Go.Proofs.YtmhijdoojkbcjaaGreatDoor
open Go.RowKit Go.Extern.Stop Go.Stop Go.Extern
set_option maxRecDepth 100000

theorem liveF_two (l : List El) : liveF (liveF l) = liveF l := by unfold liveF; simp
theorem liveF_vis : ∀ l : List El, vis (liveF l) = vis l
  | [] => rfl
  | e :: l => by
    have ih := liveF_vis l
    by_cases h : e.hd > 0
    · rw [vis_hid _ h, ← ih]
      unfold liveF
      rw [List.filter_cons, if_neg (by simp; omega)]
    · rw [vis_live _ h, ← ih]
      unfold liveF
      rw [List.filter_cons, if_pos (by simp; omega), vis_live _ h]
theorem liveF_len : ∀ l : List El, ((liveF l).length : Int) = liveL l
  | [] => rfl
  | e :: l => by
    have ih := liveF_len l
    unfold liveF at ih ⊢
    rw [List.filter_cons]
    simp only [liveL, wLive]
    by_cases h : e.hd > 0
    · rw [if_neg (by simp; omega), if_pos h, ih]; omega
    · rw [if_pos (by simp; omega), if_neg h, List.length_cons]
      omega
theorem liveF_live (l : List El) : liveL (liveF l) = ((liveF l).length : Int) := by rw [← liveF_len, liveF_two]
theorem liveF_good {l : List El} (h : ∀ e ∈ l, e.Good) (i : Nat) (e : El) (he : (liveF l)[i]? = some e) : e.Good := h e (List.mem_filter.1 (List.mem_of_getElem? he)).1
theorem apart_pair {l : List El} (h : Apart l) : l.Pairwise fun x y => x.id ≠ y.id := by
  rw [List.pairwise_iff_getElem]
  intro i j hi hj hij
  exact h i j _ _ hij (List.getElem?_eq_getElem hi) (List.getElem?_eq_getElem hj)
theorem pair_apart {l : List El} (h : l.Pairwise fun x y => x.id ≠ y.id) : Apart l := by
  intro i j x y hij hx hy
  rw [List.pairwise_iff_getElem] at h
  obtain ⟨h1, rfl⟩ := List.getElem?_eq_some_iff.1 hx
  obtain ⟨h2, rfl⟩ := List.getElem?_eq_some_iff.1 hy
  exact h i j h1 h2 hij
theorem liveF_apart {l : List El} (h : Apart l) : Apart (liveF l) := pair_apart ((apart_pair h).filter _)
theorem refLive_any (e : El) (w : World) : Calls Tryz.prog 47 #[.agg (ev e)] w fun r w' => r = .returned (.bool (decide (e.hd ≤ 0))) ∧ Below w.heap.size w w' := by
  have c4 : (w.alloc (.cells (ev e) 41)).cell? ⟨w.heap.size, 4, none⟩ = some (.int .i64 e.hd) := (row_new w (ev e) 41).cell 4
  go_enter Tryz.func47, Tryz.ntmps47
  go_wp2
  go_ret
  exact ⟨rfl, below_one w _⟩
set_option maxHeartbeats 2000000 in
theorem refPurge_ok {w : World} {u : Value} {l : List El} (hu : SlE w u l) (hn : l.length ≤ 1000000) :
    Calls Tryz.prog 24 #[u] w fun r w' => ∃ v, r = .returned v ∧ OwnE w.heap.size v (liveF l) w' ∧ Below w.heap.size w w' := by
  obtain ⟨a0, c0, rfl⟩ := hu.form
  go_enter Tryz.func24, Tryz.ntmps24
  go_wp2
  go_loopw [3, 4] (fun ov iv wr => ∃ k : Nat, iv = .int .i64 (k : Int) ∧ k ≤ l.length ∧ OwnE w.heap.size ov (liveF (l.take k)) wr ∧ Below w.heap.size w wr) (fun _ iv _ => l.length - (intOf iv).toNat)
  case atStart => exact ⟨0, rfl, Nat.zero_le _, ⟨rfl, .inl ⟨rfl, rfl⟩⟩, Below.refl _ _⟩
  case round =>
    obtain ⟨k, rfl, hk, hE, hB⟩ := hrel
    obtain ⟨a4, c4, rfl⟩ := hE.form
    by_cases hlt : k < l.length
    · have hki : (k : Int) < (l.length : Int) := by omega
      obtain ⟨e, he⟩ : ∃ e, l[k]? = some e := ⟨_, List.getElem?_eq_getElem (by omega)⟩
      rcases hu.later hB with ⟨h0, _⟩ | ⟨g, o_, c, hvv, hc⟩
      · exfalso; subst h0; simp at he
      simp only [Value.slice.injEq] at hvv
      obtain ⟨rfl, _, rfl⟩ := hvv
      have hce := hc k e he
      have HLv := hid_of' (refLive_any e)
      have hT : l.take (k + 1) = l.take k ++ [e] := by rw [List.take_add_one, he]; rfl
      have hll : (liveF (l.take k)).length ≤ k := by have := liveF_le (l.take k); rw [List.length_take] at this; omega
      have HE := hid_of' hE
      by_cases hlv : e.hd > 0
      · have HT : Hid (liveF (l.take (k + 1)) = liveF (l.take k)) := by show _ = _; rw [hT, liveF_snoc_f hlv]
        rw [show decide (e.hd ≤ 0) = false by simp; omega] at HLv
        clear hc he hE hT hll hlv
        go_wp2_with (first | (refine wpL_loadE rfl _ rfl rfl hce ?_) | (go_at_call 47; refine (HLv.out _).mono ?_; rintro r w1 ⟨rfl, hb1⟩; clear HLv))
        go_roundw
        case rel => exact ⟨k + 1, by go_num, by omega, by rw [HT.out]; exact HE.out.later hb1, bgo hB hb1⟩
        case measure => simp [intOf]; omega
      · have HT : Hid (liveF (l.take (k + 1)) = liveF (l.take k) ++ [e]) := by show _ = _; rw [hT, liveF_snoc_t hlv]
        have HL : Hid ((liveF (l.take k)).length + [e].length ≤ 1099511627776) := by show _ ≤ _; simp; omega
        rw [show decide (e.hd ≤ 0) = true by simp; omega] at HLv
        clear hc he hE hT hlv hll
        generalize liveF (l.take k) = p at HE HT HL ⊢
        have hsz0 := hB.size
        go_upto_region 6 with (first | (refine wpL_loadE rfl _ rfl rfl hce ?_) | (go_at_call 47; refine (HLv.out _).mono ?_; rintro r w1 ⟨rfl, hb1⟩; clear HLv))
        have hE1 := hid_of' (HE.out.later hb1)
        have hB1 := bgo hB hb1
        replace hce := hce.later hb1
        have hsz := hB1.size
        clear HE hB hb1
        go_wp2_with (first | (refine wpL_loadE rfl _ rfl rfl hce ?_; unfold ev) | (at_builtin; refine wpL_appE rfl _ _ rfl rfl rfl (hE1.out.later (below_one w1 _)) (sl_new w1 [e] 1 1 rfl) HL.out (by rw [World.size_alloc]; omega) ?_; intro v2 wz ho3 hg3))
        have hBz := (hB1.alloc hsz (.cells (ecells [e]).toArray 41)).grown hg3 (by rw [World.size_alloc]; omega) (fun j hj => (hE1.out.lt j hj).1)
        go_roundw
        case rel => exact ⟨k + 1, by go_num, by omega, by rw [HT.out]; exact ho3, hBz⟩
        case measure => simp [intOf]; omega
    · obtain rfl : k = l.length := by omega
      go_wp2
      go_ret
      exact ⟨_, rfl, by rw [List.take_length] at hE ⊢; exact hE, hB⟩
end Go.Proofs.YtmhijdoojkbcjaaGreatDoor
namespace Go.Proofs.YtmhijdoojkbcjaaGreatDoor
open Go.RowKit Go.Extern.Stop Go.Stop Go.Extern
set_option maxRecDepth 100000

set_option maxHeartbeats 4000000 in
theorem modelPurge_bad {ad : Nat → Addr} {w : World} {u : Value} {l : List El} (L : Laid ad w) (hu : SlE w u l) (hc : ∀ a n c, u = .slice a n c → n ≤ c) (hlm : l.length ≤ 9223372036854775807) (hi : ∀ e ∈ l, e.id.In) (j : Nat) (ej : El) (hej : (l.take 100)[j]? = some ej) (kk : Nat) (hkk : wrK ((l.take 100).take j) ej = some kk) (hf : FineTo (l.take 100) j) :
    Calls Tryz.prog 5 #[u] w fun r w' => r = .returned (.bool true) ∧ Below w.heap.size w w' := by
  have HB := hid_of' (begun_bad L hu hc hlm hi j ej hej kk hkk hf)
  have HW := hid_of' wakes5_ok
  obtain ⟨a', c', rfl⟩ := hu.form
  clear hu hc hlm hi hej hkk hf L
  go_enter Tryz.func5, Tryz.ntmps5
  go_wp2_with (first | (go_at_call 6; refine HB.out.mono ?_; rintro r w1 ⟨rfl, hb1⟩; clear HB) | (go_at_call 7; refine (HW.out _).mono ?_; rintro r w2 ⟨rfl, hb2⟩))
  go_ret
  exact ⟨rfl, bgo hb1 hb2⟩
set_option maxHeartbeats 8000000 in
theorem modelPurge_good {w : World} {u : Value} {l : List El} (hu : SlE w u l) (hc : ∀ a n c, u = .slice a n c → n ≤ c) (hlm : l.length ≤ 9223372036854775807) (hi : ∀ e ∈ l, e.id.In) (hf : FineTo (l.take 100) (l.take 100).length) :
    Calls Tryz.prog 5 #[u] w fun r w' => r = .returned (.bool true) ∧ Below w.heap.size w w' := by
  have HB := hid_of' (begun_good hu hc hlm hi hf)
  obtain ⟨a', c', rfl⟩ := hu.form
  have hm : (l.take 100).length ≤ 100 := by rw [List.length_take]; omega
  have hgd : ∀ e ∈ l.take 100, e.Good := fun e he => by
    obtain ⟨i, hi2⟩ := List.getElem?_of_mem he
    exact hf.good (fun i e he => hi e (List.mem_of_mem_take (List.mem_of_getElem? he))) i e (List.getElem?_eq_some_iff.1 hi2).1 hi2
  have hap : Apart (l.take 100) := fun i j x y hij hx hy => hf.apart i j x y hij (List.getElem?_eq_some_iff.1 hy).1 hx hy
  clear hu hc hlm hi hf
  generalize l.take 100 = m at HB hm hgd hap
  have hg1 := liveF_good hgd
  have ha1 := liveF_apart hap
  have hg2 := liveF_good (l := liveF m) (fun e he => hgd e (List.mem_filter.1 he).1)
  have ha2 := liveF_apart ha1
  have hFm := liveF_le m
  have hLm := liveF_len m
  have hL2 := liveF_live m
  unfold pv at HB
  go_enter Tryz.func5, Tryz.ntmps5
  go_upto_region 4 with (go_at_call 6; refine HB.out.mono ?_; rintro r w1 ⟨B, pb, mb, tb, kb, n, v, R, hB1, rfl, hP, hb1⟩; clear HB)
  obtain ⟨a4, c4, rfl⟩ := hP.own.form
  obtain ⟨n1, n2, n3, n4⟩ := hP.ne
  obtain ⟨K, hK⟩ : ∃ K, (liveF m).length = K := ⟨_, rfl⟩
  obtain ⟨M, hM⟩ : ∃ M, m.length = M := ⟨_, rfl⟩
  obtain ⟨S, hS⟩ : ∃ S, (⟨(encL (vis m)).toArray⟩ : ByteArray) = S := ⟨_, rfl⟩
  have hmv := hP.md.mv
  have hright : ∀ e ∈ m, rightC e.ch = true := fun e he => (hgd e he).2.1
  have HV : Hid (∀ x, Below w1.heap.size w1 x → Calls Tryz.prog 22 #[.pointer (some ⟨mb, 0, none⟩)] x fun r w' => r = .returned (.string S) ∧ Below x.heap.size x w') := fun x hx => by rw [← hS]; exact view_ok (hmv.later hx) (by omega) hright
  have HL : Hid (∀ x, Below w1.heap.size w1 x → Calls Tryz.prog 8 #[.pointer (some ⟨mb, 0, none⟩)] x fun r w' => r = .returned (.int .i64 (K : Int)) ∧ Below x.heap.size x w') := fun x hx => by rw [← hK, hLm]; exact live_md (hmv.later hx)
  have HN : Hid (∀ x, Below w1.heap.size w1 x → Calls Tryz.prog 12 #[.pointer (some ⟨mb, 0, none⟩)] x fun r w' => r = .returned (.int .i64 (M : Int)) ∧ w' = x) := fun x hx => by rw [← hM]; exact lenMv_ok (hmv.later hx)
  have HP1 : Hid (∀ x, Below w1.heap.size w1 x → Calls Tryz.prog 23 #[.pointer (some ⟨mb, 0, none⟩)] x fun r w' => r = .returned (.int .i64 ((M : Int) - (K : Int))) ∧ MvAt mb (liveF m) w' ∧ Kp mb x w') := fun x hx => by rw [← hM, ← hK]; exact purge_ok (hmv.later hx) (by omega) hg1 ha1
  have HP2 : Hid (∀ x, MvAt mb (liveF m) x → Calls Tryz.prog 23 #[.pointer (some ⟨mb, 0, none⟩)] x fun r w' => r = .returned (.int .i64 0) ∧ MvAt mb (liveF m) w' ∧ Kp mb x w') := fun x hx => by
    have := purge_ok hx (by omega) hg2 ha2
    rw [liveF_two, show (((liveF m).length : Int) - (liveF m).length) = 0 by omega] at this
    exact this
  have hrow := hP.row
  have hown := hP.own
  have cls0 : ∀ s : Wld w1, (wOf s).cell? ⟨pb, 0, none⟩ = some (.pointer (some ⟨mb, 0, none⟩)) := fun s => hrow.cls 0 _ rfl s
  have hMr := hid_of' hmv
  have Hb1 := hid_of' hb1
  have Hm := hid_of' hM
  have HKK := hid_of' (show (liveF m).length = K ∧ K ≤ M ∧ M ≤ 100 from ⟨hK, by omega, by omega⟩)
  have hKM : K ≤ M := by omega
  have hM1 : M ≤ 100 := by omega
  clear hmv hP hg1 ha1 hg2 ha2 hK hM hb1 hLm hm hFm
  have hB : Below w1.heap.size w1 w1 := Below.refl _ _
  go_upto_region 4 with fail
  refine wp_region_cls (by kernel_rfl) (by kernel_rfl) ?_
  repeat (first | go_big_quiet_skip | (go_big_quiet_want; first | (go_big_quiet_op; first | go_big_quiet_on | go_big_quiet_call ((first | (go_at_call 22; exact cls_of (HV.out _ (wOf_below _))) | (go_at_call 8; exact cls_of (HL.out _ (wOf_below _))) | (go_at_call 12; exact cls_of_same (HN.out _ (wOf_below _))))))))
  refine wpQuiet_nil ?_
  rintro w1 ⟨s1, e1⟩
  have hb1 := wOf_below s1
  rw [← e1] at hb1
  clear e1 s1
  replace hrow := hrow.later hb1
  replace hB := bgo hB hb1
  clear hb1
  have c1 : w1.cell? ⟨pb, 0, none⟩ = some (.pointer (some ⟨mb, 0, none⟩)) := hrow.cell 0
  have hne : ¬ pb = mb := by omega
  clear HV HL HN
  go_upto_region 7 with (go_at_call 23; first | (refine (HP1.out _ hB).mono ?_; rintro r w2 ⟨rfl, hmv2, hk2⟩; clear HP1; have c2 : w2.cell? ⟨pb, 0, none⟩ = some (.pointer (some ⟨mb, 0, none⟩)) := (hrow.kp hk2 hne).cell 0) | (refine (HP2.out _ hmv2).mono ?_; rintro r w3 ⟨rfl, hmv3, hk3⟩; clear HP2))
  have hk := hk2.trans hk3
  have hP7 := hrow.kp hk hne
  obtain ⟨tb9, v9, R9, hr9, _⟩ := hMr.out
  have hO7 := ownE_kp2 (hown.later hB) hk (rowNot (hr9.later hB) (hown.later hB) (by decide))
  have hs1 := Hb1.out.size
  have hB7 := Kp.below (bgo Hb1.out hB) hk (by omega) (Nat.le_trans hs1 hB.size)
  have HN7 : Hid (∀ x, Below w3.heap.size w3 x → Calls Tryz.prog 12 #[.pointer (some ⟨mb, 0, none⟩)] x fun r w' => r = .returned (.int .i64 (K : Int)) ∧ w' = x) := fun x hx => by rw [← HKK.out.1]; exact lenMv_ok (hmv3.later hx)
  have HL7 : Hid (∀ x, Below w3.heap.size w3 x → Calls Tryz.prog 8 #[.pointer (some ⟨mb, 0, none⟩)] x fun r w' => r = .returned (.int .i64 (K : Int)) ∧ Below x.heap.size x w') := fun x hx => by rw [← HKK.out.1, ← hL2]; exact live_md (hmv3.later hx)
  have hlF : (liveF m).length ≤ 100 := by have := HKK.out.1; omega
  have HV7 : Hid (∀ x, Below w3.heap.size w3 x → Calls Tryz.prog 22 #[.pointer (some ⟨mb, 0, none⟩)] x fun r w' => r = .returned (.string S) ∧ Below x.heap.size x w') := fun x hx => by
    rw [← hS, ← liveF_vis m]
    exact view_ok (hmv3.later hx) (by omega) (fun e he => hright e (List.mem_filter.1 he).1)
  have HE7 : Hid (∀ x, Below w3.heap.size w3 x → Calls Tryz.prog 13 #[.pointer (some ⟨mb, 0, none⟩)] x fun r w' => ∃ v, r = .returned v ∧ OwnE x.heap.size v (liveF m) w' ∧ Below x.heap.size x w') := fun x hx => elements_ok (hmv3.later hx) (by omega)
  have hmm : m.length ≤ 1000000 := by have := Hm.out; omega
  have HR7 : Hid (∀ x, Below w3.heap.size w3 x → Calls Tryz.prog 24 #[.slice a4 m.length c4] x fun r w' => ∃ v, r = .returned v ∧ OwnE x.heap.size v (liveF m) w' ∧ Below x.heap.size x w') := fun x hx => refPurge_ok (hO7.later hx).sl hmm
  have hwr : IntKind.i64.wrap ((M : Int) - (K : Int)) = (M : Int) - (K : Int) := by rw [IntKind.wrap_i64]; omega
  refine wp_region_tail 53 (by kernel_rfl) (fun j => match j with | 5 => some true | 9 => some true | 18 => some true | 27 => some true | 36 => some true | 49 => some true | _ => none) (by kernel_rfl) (by kernel_rfl) (by decide) (fun i v x => match i with
    | 0 => v = .int .i64 ((M : Int) - (K : Int))
    | 1 => v = .int .i64 (M : Int)
    | 2 => v = .int .i64 (K : Int)
    | 3 => v = .int .i64 ((M : Int) - (K : Int))
    | 4 => v = .bool true
    | 5 => v = .bool true
    | 6 => v = .int .i64 0
    | 7 => v = .bool true
    | 8 => v = .bool true
    | 9 => v = .bool true
    | 10 => v = .pointer (some ⟨pb, 0, none⟩)
    | 11 => v = .pointer (some ⟨pb, 0, none⟩)
    | 12 => v = .pointer (some ⟨pb, 0, none⟩)
    | 13 => v = .pointer (some ⟨mb, 0, none⟩)
    | 14 => v = .int .i64 (K : Int)
    | 15 => v = .int .i64 (K : Int)
    | 16 => v = .bool true
    | 17 => v = .bool true
    | 18 => v = .bool true
    | 19 => v = .pointer (some ⟨pb, 0, none⟩)
    | 20 => v = .pointer (some ⟨pb, 0, none⟩)
    | 21 => v = .pointer (some ⟨pb, 0, none⟩)
    | 22 => v = .pointer (some ⟨mb, 0, none⟩)
    | 23 => v = .int .i64 (K : Int)
    | 24 => v = .int .i64 (K : Int)
    | 25 => v = .bool true
    | 26 => v = .bool true
    | 27 => v = .bool true
    | 28 => v = .pointer (some ⟨pb, 0, none⟩)
    | 29 => v = .pointer (some ⟨pb, 0, none⟩)
    | 30 => v = .pointer (some ⟨pb, 0, none⟩)
    | 31 => v = .pointer (some ⟨mb, 0, none⟩)
    | 32 => v = .string S
    | 33 => v = .string S
    | 34 => v = .bool true
    | 35 => v = .bool true
    | 36 => v = .bool true
    | 37 => v = .pointer (some ⟨pb, 0, none⟩)
    | 38 => v = .pointer (some ⟨pb, 0, none⟩)
    | 39 => v = .pointer (some ⟨pb, 0, none⟩)
    | 40 => v = .pointer (some ⟨mb, 0, none⟩)
    | 41 => ∃ B, OwnE B v (liveF m) x
    | 42 => v = .pointer (some ⟨pb, 0, none⟩)
    | 43 => v = .pointer (some ⟨pb, 0, none⟩)
    | 44 => v = .pointer (some ⟨pb, 1, none⟩)
    | 45 => v = .slice a4 m.length c4
    | 46 => ∃ B, OwnE B v (liveF m) x
    | 47 => v = .bool true
    | 48 => v = .bool true
    | 49 => v = .bool true
    | 50 => v = .bool true
    | 51 => v = .bool true
    | 52 => v = .bool true
    | _ => True) (fun _ => false) (fun j v x b h hR => by
      match j, h, hR with
      | 5, h, hR => cases h; exact hR
      | 9, h, hR => cases h; exact hR
      | 18, h, hR => cases h; exact hR
      | 27, h, hR => cases h; exact hR
      | 36, h, hR => cases h; exact hR
      | 49, h, hR => cases h; exact hR
      | 0, h, _ | 1, h, _ | 2, h, _ | 3, h, _ | 4, h, _ | 6, h, _ | 7, h, _ | 8, h, _ | 10, h, _ | 11, h, _ | 12, h, _ | 13, h, _ | 14, h, _ | 15, h, _ | 16, h, _ | 17, h, _ | 19, h, _ | 20, h, _ | 21, h, _ | 22, h, _ | 23, h, _ | 24, h, _ | 25, h, _ | 26, h, _ | 28, h, _ | 29, h, _ | 30, h, _ | 31, h, _ | 32, h, _ | 33, h, _ | 34, h, _ | 35, h, _ | 37, h, _ | 38, h, _ | 39, h, _ | 40, h, _ | 41, h, _ | 42, h, _ | 43, h, _ | 44, h, _ | 45, h, _ | 46, h, _ | 47, h, _ | 48, h, _ | 50, h, _ | 51, h, _ | 52, h, _ => cases h
      | m + 53, h, _ => cases h) ?_ ?_ ?_
  · intro i v x x' hR hb
    match i, hR with
    | 0, h => exact h
    | 1, h => exact h
    | 2, h => exact h
    | 3, h => exact h
    | 4, h => exact h
    | 5, h => exact h
    | 6, h => exact h
    | 7, h => exact h
    | 8, h => exact h
    | 9, h => exact h
    | 10, h => exact h
    | 11, h => exact h
    | 12, h => exact h
    | 13, h => exact h
    | 14, h => exact h
    | 15, h => exact h
    | 16, h => exact h
    | 17, h => exact h
    | 18, h => exact h
    | 19, h => exact h
    | 20, h => exact h
    | 21, h => exact h
    | 22, h => exact h
    | 23, h => exact h
    | 24, h => exact h
    | 25, h => exact h
    | 26, h => exact h
    | 27, h => exact h
    | 28, h => exact h
    | 29, h => exact h
    | 30, h => exact h
    | 31, h => exact h
    | 32, h => exact h
    | 33, h => exact h
    | 34, h => exact h
    | 35, h => exact h
    | 36, h => exact h
    | 37, h => exact h
    | 38, h => exact h
    | 39, h => exact h
    | 40, h => exact h
    | 41, h => exact (by obtain ⟨B, h⟩ := h; exact ⟨B, OwnE.later h hb⟩)
    | 42, h => exact h
    | 43, h => exact h
    | 44, h => exact h
    | 45, h => exact h
    | 46, h => exact (by obtain ⟨B, h⟩ := h; exact ⟨B, OwnE.later h hb⟩)
    | 47, h => exact h
    | 48, h => exact h
    | 49, h => exact h
    | 50, h => exact h
    | 51, h => exact h
    | 52, h => exact h
    | m + 53, h => exact h
  · intro i o hi ho q x vals hX hdep hoth
    have t3 : q.tmps[3]? = some (.pointer (some ⟨pb, 0, none⟩)) := by rw [hoth 3 (by kernel_rfl)]; rfl
    have t5 : q.tmps[5]? = some (.string S) := by rw [hoth 5 (by kernel_rfl)]; rfl
    have t6 : q.tmps[6]? = some (.int .i64 (K : Int)) := by rw [hoth 6 (by kernel_rfl)]; rfl
    have t7 : q.tmps[7]? = some (.int .i64 (M : Int)) := by rw [hoth 7 (by kernel_rfl)]; rfl
    have t8 : q.tmps[8]? = some (.int .i64 ((M : Int) - (K : Int))) := by rw [hoth 8 (by kernel_rfl)]; rfl
    have t9 : q.tmps[9]? = some (.int .i64 0) := by rw [hoth 9 (by kernel_rfl)]; rfl
    match i, hi, ho with
    | 0, _, ho =>
      simp only [List.getElem?_cons_zero, Option.some.injEq] at ho
      subst ho
      unfold Oper.wp
      simp [execOp, go_sem, t8]
      exact came _ rfl (Below.refl _ _) rfl (fun h => absurd h (by decide))
    | 1, _, ho =>
      simp only [List.getElem?_cons_succ, List.getElem?_cons_zero, Option.some.injEq] at ho
      subst ho
      unfold Oper.wp
      simp [execOp, go_sem, t7]
      exact came _ rfl (Below.refl _ _) rfl (fun h => absurd h (by decide))
    | 2, _, ho =>
      simp only [List.getElem?_cons_succ, List.getElem?_cons_zero, Option.some.injEq] at ho
      subst ho
      unfold Oper.wp
      simp [execOp, go_sem, t6]
      exact came _ rfl (Below.refl _ _) rfl (fun h => absurd h (by decide))
    | 3, _, ho =>
      simp only [List.getElem?_cons_succ, List.getElem?_cons_zero, Option.some.injEq] at ho
      subst ho
      obtain ⟨u1, e1⟩ := hdep ⟨1, .data⟩ (by simp) rfl _ 47 rfl rfl
      rw [show vals 1 = .int .i64 (M : Int) from e1] at u1
      obtain ⟨u2, e2⟩ := hdep ⟨2, .data⟩ (by simp) rfl _ 48 rfl rfl
      rw [show vals 2 = .int .i64 (K : Int) from e2] at u2
      unfold Oper.wp
      simp [execOp, go_sem, u1, u2, hwr]
      exact came _ rfl (Below.refl _ _) rfl (fun h => absurd h (by decide))
    | 4, _, ho =>
      simp only [List.getElem?_cons_succ, List.getElem?_cons_zero, Option.some.injEq] at ho
      subst ho
      obtain ⟨u0, e0⟩ := hdep ⟨0, .data⟩ (by simp) rfl _ 46 rfl rfl
      rw [show vals 0 = .int .i64 ((M : Int) - (K : Int)) from e0] at u0
      obtain ⟨u3, e3⟩ := hdep ⟨3, .data⟩ (by simp) rfl _ 49 rfl rfl
      rw [show vals 3 = .int .i64 ((M : Int) - (K : Int)) from e3] at u3
      unfold Oper.wp
      simp [execOp, go_sem, u0, u3]
      exact came _ rfl (Below.refl _ _) rfl (fun h => absurd h (by decide))
    | 5, _, ho =>
      simp only [List.getElem?_cons_succ, List.getElem?_cons_zero, Option.some.injEq] at ho
      subst ho
      obtain ⟨u4, e4⟩ := hdep ⟨4, .data⟩ (by simp) rfl _ 50 rfl rfl
      rw [show vals 4 = .bool true from e4] at u4
      unfold Oper.wp
      simp [execOp, go_sem, u4]
      exact came _ rfl (Below.refl _ _) rfl (fun h => absurd h (by decide))
    | 6, _, ho =>
      simp only [List.getElem?_cons_succ, List.getElem?_cons_zero, Option.some.injEq] at ho
      subst ho
      unfold Oper.wp
      simp [execOp, go_sem, t9]
      exact came _ rfl (Below.refl _ _) rfl (fun h => absurd h (by decide))
    | 7, _, ho =>
      simp only [List.getElem?_cons_succ, List.getElem?_cons_zero, Option.some.injEq] at ho
      subst ho
      obtain ⟨u6, e6⟩ := hdep ⟨6, .data⟩ (by simp) rfl _ 52 rfl rfl
      rw [show vals 6 = .int .i64 0 from e6] at u6
      unfold Oper.wp
      simp [execOp, go_sem, u6]
      exact came _ rfl (Below.refl _ _) rfl (fun h => absurd h (by decide))
    | 8, _, ho =>
      simp only [List.getElem?_cons_succ, List.getElem?_cons_zero, Option.some.injEq] at ho
      subst ho
      obtain ⟨u5, e5⟩ := hdep ⟨5, .data⟩ (by simp) rfl _ 51 rfl rfl
      rw [show vals 5 = .bool true from e5] at u5
      obtain ⟨u7, e7⟩ := hdep ⟨7, .data⟩ (by simp) rfl _ 53 rfl rfl
      rw [show vals 7 = .bool true from e7] at u7
      unfold Oper.wp
      simp [execOp, go_sem, u5, u7]
      exact came _ rfl (Below.refl _ _) rfl (fun h => absurd h (by decide))
    | 9, _, ho =>
      simp only [List.getElem?_cons_succ, List.getElem?_cons_zero, Option.some.injEq] at ho
      subst ho
      obtain ⟨u8, e8⟩ := hdep ⟨8, .data⟩ (by simp) rfl _ 54 rfl rfl
      rw [show vals 8 = .bool true from e8] at u8
      unfold Oper.wp
      simp [execOp, go_sem, u8]
      exact came _ rfl (Below.refl _ _) rfl (fun h => absurd h (by decide))
    | 10, _, ho =>
      simp only [List.getElem?_cons_succ, List.getElem?_cons_zero, Option.some.injEq] at ho
      subst ho
      unfold Oper.wp
      simp [execOp, go_sem, t3]
      exact came _ rfl (Below.refl _ _) rfl (fun h => absurd h (by decide))
    | 11, _, ho =>
      simp only [List.getElem?_cons_succ, List.getElem?_cons_zero, Option.some.injEq] at ho
      subst ho
      obtain ⟨u10, e10⟩ := hdep ⟨10, .data⟩ (by simp) rfl _ 56 rfl rfl
      rw [show vals 10 = .pointer (some ⟨pb, 0, none⟩) from e10] at u10
      unfold Oper.wp
      simp [execOp, go_sem, u10]
      exact came _ rfl (Below.refl _ _) rfl (fun h => absurd h (by decide))
    | 12, _, ho =>
      simp only [List.getElem?_cons_succ, List.getElem?_cons_zero, Option.some.injEq] at ho
      subst ho
      obtain ⟨u11, e11⟩ := hdep ⟨11, .data⟩ (by simp) rfl _ 57 rfl rfl
      rw [show vals 11 = .pointer (some ⟨pb, 0, none⟩) from e11] at u11
      unfold Oper.wp
      simp [execOp, go_sem, u11]
      exact came _ rfl (Below.refl _ _) rfl (fun h => absurd h (by decide))
    | 13, _, ho =>
      simp only [List.getElem?_cons_succ, List.getElem?_cons_zero, Option.some.injEq] at ho
      subst ho
      obtain ⟨u12, e12⟩ := hdep ⟨12, .data⟩ (by simp) rfl _ 58 rfl rfl
      rw [show vals 12 = .pointer (some ⟨pb, 0, none⟩) from e12] at u12
      have cc : x.cell? ⟨pb, 0, none⟩ = some (.pointer (some ⟨mb, 0, none⟩)) := (hP7.later hX).cell 0
      unfold Oper.wp
      simp [execOp, go_sem, u12, cc]
      exact came _ rfl (Below.refl _ _) rfl (fun h => absurd h (by decide))
    | 14, _, ho =>
      simp only [List.getElem?_cons_succ, List.getElem?_cons_zero, Option.some.injEq] at ho
      subst ho
      obtain ⟨u13, e13⟩ := hdep ⟨13, .data⟩ (by simp) rfl _ 59 rfl rfl
      rw [show vals 13 = .pointer (some ⟨mb, 0, none⟩) from e13] at u13
      unfold Oper.wp
      simp [go_sem, u13]
      refine (HN7.out _ hX).mono ?_
      rintro r x1 ⟨rfl, hw1⟩; have hb1 : Below x.heap.size x x1 := by rw [hw1]; exact Below.refl _ _
      exact came _ rfl hb1 rfl (fun h => absurd h (by decide))
    | 15, _, ho =>
      simp only [List.getElem?_cons_succ, List.getElem?_cons_zero, Option.some.injEq] at ho
      subst ho
      unfold Oper.wp
      simp [execOp, go_sem, t6]
      exact came _ rfl (Below.refl _ _) rfl (fun h => absurd h (by decide))
    | 16, _, ho =>
      simp only [List.getElem?_cons_succ, List.getElem?_cons_zero, Option.some.injEq] at ho
      subst ho
      obtain ⟨u14, e14⟩ := hdep ⟨14, .data⟩ (by simp) rfl _ 60 rfl rfl
      rw [show vals 14 = .int .i64 (K : Int) from e14] at u14
      obtain ⟨u15, e15⟩ := hdep ⟨15, .data⟩ (by simp) rfl _ 61 rfl rfl
      rw [show vals 15 = .int .i64 (K : Int) from e15] at u15
      unfold Oper.wp
      simp [execOp, go_sem, u14, u15]
      exact came _ rfl (Below.refl _ _) rfl (fun h => absurd h (by decide))
    | 17, _, ho =>
      simp only [List.getElem?_cons_succ, List.getElem?_cons_zero, Option.some.injEq] at ho
      subst ho
      obtain ⟨u9, e9⟩ := hdep ⟨9, .data⟩ (by simp) rfl _ 55 rfl rfl
      rw [show vals 9 = .bool true from e9] at u9
      obtain ⟨u16, e16⟩ := hdep ⟨16, .data⟩ (by simp) rfl _ 62 rfl rfl
      rw [show vals 16 = .bool true from e16] at u16
      unfold Oper.wp
      simp [execOp, go_sem, u9, u16]
      exact came _ rfl (Below.refl _ _) rfl (fun h => absurd h (by decide))
    | 18, _, ho =>
      simp only [List.getElem?_cons_succ, List.getElem?_cons_zero, Option.some.injEq] at ho
      subst ho
      obtain ⟨u17, e17⟩ := hdep ⟨17, .data⟩ (by simp) rfl _ 63 rfl rfl
      rw [show vals 17 = .bool true from e17] at u17
      unfold Oper.wp
      simp [execOp, go_sem, u17]
      exact came _ rfl (Below.refl _ _) rfl (fun h => absurd h (by decide))
    | 19, _, ho =>
      simp only [List.getElem?_cons_succ, List.getElem?_cons_zero, Option.some.injEq] at ho
      subst ho
      unfold Oper.wp
      simp [execOp, go_sem, t3]
      exact came _ rfl (Below.refl _ _) rfl (fun h => absurd h (by decide))
    | 20, _, ho =>
      simp only [List.getElem?_cons_succ, List.getElem?_cons_zero, Option.some.injEq] at ho
      subst ho
      obtain ⟨u19, e19⟩ := hdep ⟨19, .data⟩ (by simp) rfl _ 65 rfl rfl
      rw [show vals 19 = .pointer (some ⟨pb, 0, none⟩) from e19] at u19
      unfold Oper.wp
      simp [execOp, go_sem, u19]
      exact came _ rfl (Below.refl _ _) rfl (fun h => absurd h (by decide))
    | 21, _, ho =>
      simp only [List.getElem?_cons_succ, List.getElem?_cons_zero, Option.some.injEq] at ho
      subst ho
      obtain ⟨u20, e20⟩ := hdep ⟨20, .data⟩ (by simp) rfl _ 66 rfl rfl
      rw [show vals 20 = .pointer (some ⟨pb, 0, none⟩) from e20] at u20
      unfold Oper.wp
      simp [execOp, go_sem, u20]
      exact came _ rfl (Below.refl _ _) rfl (fun h => absurd h (by decide))
    | 22, _, ho =>
      simp only [List.getElem?_cons_succ, List.getElem?_cons_zero, Option.some.injEq] at ho
      subst ho
      obtain ⟨u21, e21⟩ := hdep ⟨21, .data⟩ (by simp) rfl _ 67 rfl rfl
      rw [show vals 21 = .pointer (some ⟨pb, 0, none⟩) from e21] at u21
      have cc : x.cell? ⟨pb, 0, none⟩ = some (.pointer (some ⟨mb, 0, none⟩)) := (hP7.later hX).cell 0
      unfold Oper.wp
      simp [execOp, go_sem, u21, cc]
      exact came _ rfl (Below.refl _ _) rfl (fun h => absurd h (by decide))
    | 23, _, ho =>
      simp only [List.getElem?_cons_succ, List.getElem?_cons_zero, Option.some.injEq] at ho
      subst ho
      obtain ⟨u22, e22⟩ := hdep ⟨22, .data⟩ (by simp) rfl _ 68 rfl rfl
      rw [show vals 22 = .pointer (some ⟨mb, 0, none⟩) from e22] at u22
      unfold Oper.wp
      simp [go_sem, u22]
      refine (HL7.out _ hX).mono ?_
      rintro r x1 ⟨rfl, hb1⟩
      exact came _ rfl hb1 rfl (fun h => absurd h (by decide))
    | 24, _, ho =>
      simp only [List.getElem?_cons_succ, List.getElem?_cons_zero, Option.some.injEq] at ho
      subst ho
      unfold Oper.wp
      simp [execOp, go_sem, t6]
      exact came _ rfl (Below.refl _ _) rfl (fun h => absurd h (by decide))
    | 25, _, ho =>
      simp only [List.getElem?_cons_succ, List.getElem?_cons_zero, Option.some.injEq] at ho
      subst ho
      obtain ⟨u23, e23⟩ := hdep ⟨23, .data⟩ (by simp) rfl _ 69 rfl rfl
      rw [show vals 23 = .int .i64 (K : Int) from e23] at u23
      obtain ⟨u24, e24⟩ := hdep ⟨24, .data⟩ (by simp) rfl _ 70 rfl rfl
      rw [show vals 24 = .int .i64 (K : Int) from e24] at u24
      unfold Oper.wp
      simp [execOp, go_sem, u23, u24]
      exact came _ rfl (Below.refl _ _) rfl (fun h => absurd h (by decide))
    | 26, _, ho =>
      simp only [List.getElem?_cons_succ, List.getElem?_cons_zero, Option.some.injEq] at ho
      subst ho
      obtain ⟨u18, e18⟩ := hdep ⟨18, .data⟩ (by simp) rfl _ 64 rfl rfl
      rw [show vals 18 = .bool true from e18] at u18
      obtain ⟨u25, e25⟩ := hdep ⟨25, .data⟩ (by simp) rfl _ 71 rfl rfl
      rw [show vals 25 = .bool true from e25] at u25
      unfold Oper.wp
      simp [execOp, go_sem, u18, u25]
      exact came _ rfl (Below.refl _ _) rfl (fun h => absurd h (by decide))
    | 27, _, ho =>
      simp only [List.getElem?_cons_succ, List.getElem?_cons_zero, Option.some.injEq] at ho
      subst ho
      obtain ⟨u26, e26⟩ := hdep ⟨26, .data⟩ (by simp) rfl _ 72 rfl rfl
      rw [show vals 26 = .bool true from e26] at u26
      unfold Oper.wp
      simp [execOp, go_sem, u26]
      exact came _ rfl (Below.refl _ _) rfl (fun h => absurd h (by decide))
    | 28, _, ho =>
      simp only [List.getElem?_cons_succ, List.getElem?_cons_zero, Option.some.injEq] at ho
      subst ho
      unfold Oper.wp
      simp [execOp, go_sem, t3]
      exact came _ rfl (Below.refl _ _) rfl (fun h => absurd h (by decide))
    | 29, _, ho =>
      simp only [List.getElem?_cons_succ, List.getElem?_cons_zero, Option.some.injEq] at ho
      subst ho
      obtain ⟨u28, e28⟩ := hdep ⟨28, .data⟩ (by simp) rfl _ 74 rfl rfl
      rw [show vals 28 = .pointer (some ⟨pb, 0, none⟩) from e28] at u28
      unfold Oper.wp
      simp [execOp, go_sem, u28]
      exact came _ rfl (Below.refl _ _) rfl (fun h => absurd h (by decide))
    | 30, _, ho =>
      simp only [List.getElem?_cons_succ, List.getElem?_cons_zero, Option.some.injEq] at ho
      subst ho
      obtain ⟨u29, e29⟩ := hdep ⟨29, .data⟩ (by simp) rfl _ 75 rfl rfl
      rw [show vals 29 = .pointer (some ⟨pb, 0, none⟩) from e29] at u29
      unfold Oper.wp
      simp [execOp, go_sem, u29]
      exact came _ rfl (Below.refl _ _) rfl (fun h => absurd h (by decide))
    | 31, _, ho =>
      simp only [List.getElem?_cons_succ, List.getElem?_cons_zero, Option.some.injEq] at ho
      subst ho
      obtain ⟨u30, e30⟩ := hdep ⟨30, .data⟩ (by simp) rfl _ 76 rfl rfl
      rw [show vals 30 = .pointer (some ⟨pb, 0, none⟩) from e30] at u30
      have cc : x.cell? ⟨pb, 0, none⟩ = some (.pointer (some ⟨mb, 0, none⟩)) := (hP7.later hX).cell 0
      unfold Oper.wp
      simp [execOp, go_sem, u30, cc]
      exact came _ rfl (Below.refl _ _) rfl (fun h => absurd h (by decide))
    | 32, _, ho =>
      simp only [List.getElem?_cons_succ, List.getElem?_cons_zero, Option.some.injEq] at ho
      subst ho
      obtain ⟨u31, e31⟩ := hdep ⟨31, .data⟩ (by simp) rfl _ 77 rfl rfl
      rw [show vals 31 = .pointer (some ⟨mb, 0, none⟩) from e31] at u31
      unfold Oper.wp
      simp [go_sem, u31]
      refine (HV7.out _ hX).mono ?_
      rintro r x1 ⟨rfl, hb1⟩
      exact came _ rfl hb1 rfl (fun h => absurd h (by decide))
    | 33, _, ho =>
      simp only [List.getElem?_cons_succ, List.getElem?_cons_zero, Option.some.injEq] at ho
      subst ho
      unfold Oper.wp
      simp [execOp, go_sem, t5]
      exact came _ rfl (Below.refl _ _) rfl (fun h => absurd h (by decide))
    | 34, _, ho =>
      simp only [List.getElem?_cons_succ, List.getElem?_cons_zero, Option.some.injEq] at ho
      subst ho
      obtain ⟨u32, e32⟩ := hdep ⟨32, .data⟩ (by simp) rfl _ 78 rfl rfl
      rw [show vals 32 = .string S from e32] at u32
      obtain ⟨u33, e33⟩ := hdep ⟨33, .data⟩ (by simp) rfl _ 79 rfl rfl
      rw [show vals 33 = .string S from e33] at u33
      unfold Oper.wp
      simp [execOp, go_sem, u32, u33]
      exact came _ rfl (Below.refl _ _) rfl (fun h => absurd h (by decide))
    | 35, _, ho =>
      simp only [List.getElem?_cons_succ, List.getElem?_cons_zero, Option.some.injEq] at ho
      subst ho
      obtain ⟨u27, e27⟩ := hdep ⟨27, .data⟩ (by simp) rfl _ 73 rfl rfl
      rw [show vals 27 = .bool true from e27] at u27
      obtain ⟨u34, e34⟩ := hdep ⟨34, .data⟩ (by simp) rfl _ 80 rfl rfl
      rw [show vals 34 = .bool true from e34] at u34
      unfold Oper.wp
      simp [execOp, go_sem, u27, u34]
      exact came _ rfl (Below.refl _ _) rfl (fun h => absurd h (by decide))
    | 36, _, ho =>
      simp only [List.getElem?_cons_succ, List.getElem?_cons_zero, Option.some.injEq] at ho
      subst ho
      obtain ⟨u35, e35⟩ := hdep ⟨35, .data⟩ (by simp) rfl _ 81 rfl rfl
      rw [show vals 35 = .bool true from e35] at u35
      unfold Oper.wp
      simp [execOp, go_sem, u35]
      exact came _ rfl (Below.refl _ _) rfl (fun h => absurd h (by decide))
    | 37, _, ho =>
      simp only [List.getElem?_cons_succ, List.getElem?_cons_zero, Option.some.injEq] at ho
      subst ho
      unfold Oper.wp
      simp [execOp, go_sem, t3]
      exact came _ rfl (Below.refl _ _) rfl (fun h => absurd h (by decide))
    | 38, _, ho =>
      simp only [List.getElem?_cons_succ, List.getElem?_cons_zero, Option.some.injEq] at ho
      subst ho
      obtain ⟨u37, e37⟩ := hdep ⟨37, .data⟩ (by simp) rfl _ 83 rfl rfl
      rw [show vals 37 = .pointer (some ⟨pb, 0, none⟩) from e37] at u37
      unfold Oper.wp
      simp [execOp, go_sem, u37]
      exact came _ rfl (Below.refl _ _) rfl (fun h => absurd h (by decide))
    | 39, _, ho =>
      simp only [List.getElem?_cons_succ, List.getElem?_cons_zero, Option.some.injEq] at ho
      subst ho
      obtain ⟨u38, e38⟩ := hdep ⟨38, .data⟩ (by simp) rfl _ 84 rfl rfl
      rw [show vals 38 = .pointer (some ⟨pb, 0, none⟩) from e38] at u38
      unfold Oper.wp
      simp [execOp, go_sem, u38]
      exact came _ rfl (Below.refl _ _) rfl (fun h => absurd h (by decide))
    | 40, _, ho =>
      simp only [List.getElem?_cons_succ, List.getElem?_cons_zero, Option.some.injEq] at ho
      subst ho
      obtain ⟨u39, e39⟩ := hdep ⟨39, .data⟩ (by simp) rfl _ 85 rfl rfl
      rw [show vals 39 = .pointer (some ⟨pb, 0, none⟩) from e39] at u39
      have cc : x.cell? ⟨pb, 0, none⟩ = some (.pointer (some ⟨mb, 0, none⟩)) := (hP7.later hX).cell 0
      unfold Oper.wp
      simp [execOp, go_sem, u39, cc]
      exact came _ rfl (Below.refl _ _) rfl (fun h => absurd h (by decide))
    | 41, _, ho =>
      simp only [List.getElem?_cons_succ, List.getElem?_cons_zero, Option.some.injEq] at ho
      subst ho
      obtain ⟨u40, e40⟩ := hdep ⟨40, .data⟩ (by simp) rfl _ 86 rfl rfl
      rw [show vals 40 = .pointer (some ⟨mb, 0, none⟩) from e40] at u40
      unfold Oper.wp
      simp [go_sem, u40]
      refine (HE7.out _ hX).mono ?_
      rintro r x1 ⟨v41, rfl, ho41, hb1⟩
      exact came _ rfl hb1 ⟨_, ho41⟩ (fun h => absurd h (by decide))
    | 42, _, ho =>
      simp only [List.getElem?_cons_succ, List.getElem?_cons_zero, Option.some.injEq] at ho
      subst ho
      unfold Oper.wp
      simp [execOp, go_sem, t3]
      exact came _ rfl (Below.refl _ _) rfl (fun h => absurd h (by decide))
    | 43, _, ho =>
      simp only [List.getElem?_cons_succ, List.getElem?_cons_zero, Option.some.injEq] at ho
      subst ho
      obtain ⟨u42, e42⟩ := hdep ⟨42, .data⟩ (by simp) rfl _ 88 rfl rfl
      rw [show vals 42 = .pointer (some ⟨pb, 0, none⟩) from e42] at u42
      unfold Oper.wp
      simp [execOp, go_sem, u42]
      exact came _ rfl (Below.refl _ _) rfl (fun h => absurd h (by decide))
    | 44, _, ho =>
      simp only [List.getElem?_cons_succ, List.getElem?_cons_zero, Option.some.injEq] at ho
      subst ho
      obtain ⟨u43, e43⟩ := hdep ⟨43, .data⟩ (by simp) rfl _ 89 rfl rfl
      rw [show vals 43 = .pointer (some ⟨pb, 0, none⟩) from e43] at u43
      unfold Oper.wp
      simp [execOp, go_sem, u43]
      exact came _ rfl (Below.refl _ _) rfl (fun h => absurd h (by decide))
    | 45, _, ho =>
      simp only [List.getElem?_cons_succ, List.getElem?_cons_zero, Option.some.injEq] at ho
      subst ho
      obtain ⟨u44, e44⟩ := hdep ⟨44, .data⟩ (by simp) rfl _ 90 rfl rfl
      rw [show vals 44 = .pointer (some ⟨pb, 1, none⟩) from e44] at u44
      have cc : x.cell? ⟨pb, 1, none⟩ = some (.slice a4 m.length c4) := (hP7.later hX).cell 1
      unfold Oper.wp
      simp [execOp, go_sem, u44, cc]
      exact came _ rfl (Below.refl _ _) rfl (fun h => absurd h (by decide))
    | 46, _, ho =>
      simp only [List.getElem?_cons_succ, List.getElem?_cons_zero, Option.some.injEq] at ho
      subst ho
      obtain ⟨u45, e45⟩ := hdep ⟨45, .data⟩ (by simp) rfl _ 91 rfl rfl
      rw [show vals 45 = .slice a4 m.length c4 from e45] at u45
      unfold Oper.wp
      simp [go_sem, u45]
      refine (HR7.out _ hX).mono ?_
      rintro r x1 ⟨v46, rfl, ho46, hb1⟩
      exact came _ rfl hb1 ⟨_, ho46⟩ (fun h => absurd h (by decide))
    | 47, _, ho =>
      simp only [List.getElem?_cons_succ, List.getElem?_cons_zero, Option.some.injEq] at ho
      subst ho
      obtain ⟨u41, e41⟩ := hdep ⟨41, .data⟩ (by simp) rfl _ 87 rfl rfl
      obtain ⟨u46, e46⟩ := hdep ⟨46, .data⟩ (by simp) rfl _ 92 rfl rfl
      obtain ⟨B1, o1⟩ := e41
      obtain ⟨B2, o2⟩ := e46
      unfold Oper.wp
      simp [go_sem, u41, u46]
      refine (elements_eq o1.sl o2.sl (by omega)).mono ?_
      rintro r x1 ⟨rfl, hb1⟩
      exact came _ rfl hb1 rfl (fun h => absurd h (by decide))
    | 48, _, ho =>
      simp only [List.getElem?_cons_succ, List.getElem?_cons_zero, Option.some.injEq] at ho
      subst ho
      obtain ⟨u36, e36⟩ := hdep ⟨36, .data⟩ (by simp) rfl _ 82 rfl rfl
      rw [show vals 36 = .bool true from e36] at u36
      obtain ⟨u47, e47⟩ := hdep ⟨47, .data⟩ (by simp) rfl _ 93 rfl rfl
      rw [show vals 47 = .bool true from e47] at u47
      unfold Oper.wp
      simp [execOp, go_sem, u36, u47]
      exact came _ rfl (Below.refl _ _) rfl (fun h => absurd h (by decide))
    | 49, _, ho =>
      simp only [List.getElem?_cons_succ, List.getElem?_cons_zero, Option.some.injEq] at ho
      subst ho
      obtain ⟨u48, e48⟩ := hdep ⟨48, .data⟩ (by simp) rfl _ 94 rfl rfl
      rw [show vals 48 = .bool true from e48] at u48
      unfold Oper.wp
      simp [execOp, go_sem, u48]
      exact came _ rfl (Below.refl _ _) rfl (fun h => absurd h (by decide))
    | 50, _, ho =>
      simp only [List.getElem?_cons_succ, List.getElem?_cons_zero, Option.some.injEq] at ho
      subst ho
      unfold Oper.wp
      simp [go_sem, ]
      refine (wakes5_ok x).mono ?_
      rintro r x1 ⟨rfl, hb1⟩
      exact came _ rfl hb1 rfl (fun h => absurd h (by decide))
    | 51, _, ho =>
      simp only [List.getElem?_cons_succ, List.getElem?_cons_zero, Option.some.injEq] at ho
      subst ho
      obtain ⟨u49, e49⟩ := hdep ⟨49, .data⟩ (by simp) rfl _ 95 rfl rfl
      rw [show vals 49 = .bool true from e49] at u49
      obtain ⟨u50, e50⟩ := hdep ⟨50, .data⟩ (by simp) rfl _ 96 rfl rfl
      rw [show vals 50 = .bool true from e50] at u50
      unfold Oper.wp
      simp [execOp, go_sem, u49, u50]
      exact came _ rfl (Below.refl _ _) rfl (fun h => absurd h (by decide))
    | 52, _, ho =>
      simp only [List.getElem?_cons_succ, List.getElem?_cons_zero, Option.some.injEq] at ho
      subst ho
      obtain ⟨u51, e51⟩ := hdep ⟨51, .data⟩ (by simp) rfl _ 97 rfl rfl
      rw [show vals 51 = .bool true from e51] at u51
      unfold Oper.wp
      simp [execOp, go_sem, u51]
      exact came _ rfl (Below.refl _ _) rfl (fun h => absurd h (by decide))
    | m + 53, hi, _ => exact absurd hi (by omega)
  · intro vals x' hX hR _
    have q52 : vals 52 = .bool true := hR 52 (by decide)
    simp only [List.take, List.drop, putAll, q52]
    simp only [List.setIfInBounds_toArray, List.set_cons_succ, List.set_cons_zero]
    go_wp2
    go_ret
    exact ⟨rfl, bgo hB7 hX⟩
theorem modelPurge_all {ad : Nat → Addr} {w : World} {u : Value} {l : List El} (L : Laid ad w) (hu : SlE w u l) (hc : ∀ a n c, u = .slice a n c → n ≤ c) (hlm : l.length ≤ 9223372036854775807) (hi : ∀ e ∈ l, e.id.In) :
    Calls Tryz.prog 5 #[u] w fun r w' => r = .returned (.bool true) ∧ Below w.heap.size w w' := by
  rcases fine_or (l.take 100) with h | ⟨j, e, kk, h1, h2, h3⟩
  · exact modelPurge_good hu hc hlm hi h
  · exact modelPurge_bad L hu hc hlm hi j e h1 kk h2 h3
end Go.Proofs.YtmhijdoojkbcjaaGreatDoor
