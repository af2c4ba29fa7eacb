
/-
  Open, of both sides; SpoilInts; a desk of the program and one of the document beside each other; same.
-/
import Derived.Test.YtfgcljpiidhfpaaDoorRe3
import Derived.Test.YtfgcljpiidhfpaaDoorFy1
namespace Go.Proofs.YtfgcljpiidhfpaaDoor
open Go.RowKit Go.Extern.Stop Go.Stop Go.Extern
set_option maxRecDepth 100000

theorem infoInt : (Tryd.prog.info? 3).map (fun i => (i.zero, i.size, i.bytes)) = some (some (.int .i64 0), 1, 8) := by kernel_rfl
theorem ints_one (l : List Int) : ∀ y ∈ ints l, y.oneCell' = true := fun y hy => by
  simp only [ints, List.mem_map] at hy
  obtain ⟨z, _, rfl⟩ := hy
  rfl
theorem so_int (w : World) (x : Int) : So 1 (.slice (some ⟨w.heap.size, 0, none⟩) 1 1) 1 (ints [x]) (w.alloc (.cells #[.int .i64 x] 3)) :=
  ⟨rfl, .inr ⟨_, _, rfl, fun j u hu => by
    match j, hu with
    | 0, hu => cases hu; rw [Addr.add_lit, Nat.zero_add, (RowAt.news w _ _).cell]; rfl
    | j + 1, hu => simp [ints] at hu⟩⟩
theorem Rw.someG {e : TypeId} {size n c : Nat} {a : Option Addr} {xs : List Value} {w : World} (h : Rw e size (.slice a n c) n xs w) (hn : 0 < n) : ∃ g, a = some ⟨g, 0, none⟩ := by
  rcases h.2 with ⟨_, q⟩ | ⟨g, cap, cur, q, _⟩
  · omega
  · cases q
    exact ⟨g, rfl⟩
theorem Rw.setI {n c g : Nat} {ms : List Int} {w : World} (h : Rw 3 1 (.slice (some ⟨g, 0, none⟩) n c) n (ints ms) w) {i : Nat} (x : Int) : Rw 3 1 (.slice (some ⟨g, 0, none⟩) n c) n (ints (ms.set i x)) (w.setCell ⟨g, i, none⟩ (.int .i64 x)) := by
  refine ⟨by have := h.1; simpa [ints] using this, ?_⟩
  rcases h.2 with ⟨q, _⟩ | ⟨g', cap, cur, q, hg, h1, h2, h3, h4⟩
  · cases q
  · cases q
    refine .inr ⟨g, c, cur.setIfInBounds i (.int .i64 x), rfl, heap_setCell_at hg _ _, h1, h2, by simpa using h3, ?_⟩
    rw [Array.toList_setIfInBounds, List.take_set, h4]
    simp [ints]
theorem Rw.atI {n c g : Nat} {ms : List Int} {w : World} (h : Rw 3 1 (.slice (some ⟨g, 0, none⟩) n c) n (ints ms) w) {i : Nat} {m : Int} (hm : ms[i]? = some m) : w.cell? ⟨g, i, none⟩ = some (.int .i64 m) ∧ w.frozen? ⟨g, i, none⟩ = false := by
  have hc := h.cells i (.int .i64 m) (by simp [ints, hm])
  rw [Nat.zero_add] at hc
  refine ⟨hc, ?_⟩
  rcases h.2 with ⟨q, _⟩ | ⟨g', cap, cur, q, hg, _⟩
  · cases q
  · cases q
    exact RowAt.frz hg i
theorem Rw.slAt {n : Nat} {v : Value} {cs : List Value} {e : TypeId} {w : World} (h : Rw e 1 v n cs w) : SlAt w v 1 n cs := by
  refine ⟨h.1, ?_⟩
  rcases h.2 with ⟨q, q2⟩ | ⟨g, cap, cur, q, hg, _⟩
  · exact .inl ⟨q2, _, _, q⟩
  · subst q
    exact .inr ⟨g, 0, cap, rfl, RowAt.lt hg, fun j u hu => h.cells j u hu⟩
theorem wpL_ix {ops : Array Oper} {rest : List Oper} {o : Oper} {a : Act} {w : World} {Q : Exit → Act → World → Prop} (hgd : o.guard = none) (x y : Operand) (ho : o.op = .index 46 x y) {l : List Rnd} (ok : OkL l) {c : Nat} {r : Rnd} (h : l[c]? = some r) (hx : a.eval x = .agg (cv (rs l))) (hy : a.eval y = .int .i64 (c : Int))
    (k : wpList Tryd.prog ops Q rest (a.put o.dst (.agg (cv (rc r)))) w) : wpList Tryd.prog ops Q (o :: rest) a w :=
  wpList_plain hgd fun _ hK => by
    unfold Oper.wp execOp
    simp only [ho, hx, hy, Sem.run_bind, run_ixRnds ok h w, Result.andThen_ok]
    exact hK _ _ k
/-- The open ones of the first k. -/
def opn (l : List Rnd) : List Int := l.zipIdx.filterMap fun x => if openR x.1 then some (x.2 : Int) else none
theorem opn_app (l : List Rnd) (r : Rnd) : opn (l ++ [r]) = opn l ++ (if openR r then [(l.length : Int)] else []) := by
  unfold opn
  rw [List.zipIdx_append, List.filterMap_append]
  congr 1
  by_cases h : openR r
  · simp [h]
  · simp [h]
theorem opn_len (l : List Rnd) : (opn l).length ≤ l.length := by
  unfold opn
  exact Nat.le_trans (List.length_filterMap_le _ _) (by simp)
theorem opn_next {l : List Rnd} {k : Nat} {r : Rnd} (h : l[k]? = some r) : opn (l.take (k + 1)) = opn (l.take k) ++ (if openR r then [(k : Int)] else []) := by
  have hk := (List.getElem?_eq_some_iff.1 h).1
  rw [List.take_add_one, h, Option.toList_some, opn_app, List.length_take, Nat.min_eq_left (by omega)]
set_option maxHeartbeats 4000000 in
theorem open_is {d : Nat} {n s : Int} {l : List Rnd} {w : World} (h : DkAt d n s l w) :
    Calls Tryd.prog 41 #[.pointer (some ⟨d, 0, none⟩)] w fun e w' => ∃ u, e = .returned u ∧ Rw 3 1 u (opn l).length (ints (opn l)) w' ∧ (∀ k, u.ownBlock = some k → w.heap.size ≤ k) ∧ Below w.heap.size w w' := by
  obtain ⟨i0, hi0, hz0, hz1, hz2⟩ := info_parts infoInt
  have HI := hid_of' (And.intro hi0 (And.intro hz0 (And.intro hz1 hz2)))
  have ok := h.2
  have hin := h.rounds
  clear h hi0 hz0 hz1 hz2
  go_enter Tryd.func41, Tryd.ntmps41
  go_wp2_with (refine ldRnds ok rfl _ rfl rfl hin ?_)
  clear hin
  go_loopw [3, 10] (fun pv kv wr => ∃ (k : Nat), kv = .int .i64 (k : Int) ∧ k ≤ 8 ∧ Rw 3 1 pv (opn (l.take k)).length (ints (opn (l.take k))) wr ∧ (∀ b, pv.ownBlock = some b → w.heap.size ≤ b) ∧ Below w.heap.size w wr) (fun _ kv _ => 8 - (intOf kv).toNat)
  case atStart => exact ⟨0, rfl, by omega, by simpa [opn, ints] using Rw.nil _ _ _, fun b hb => (by cases hb), Below.refl _ _⟩
  case round =>
    rename World => wr
    obtain ⟨k, rfl, hk, hR, hlo, hB⟩ := hrel
    obtain ⟨pa, pc, hpv, _, _⟩ := hR.form
    subst hpv
    obtain ⟨M, hM⟩ : ∃ M, (opn (l.take k)).length = M := ⟨_, rfl⟩
    have hMk : M ≤ k := by have := opn_len (l.take k); rw [List.length_take] at this; omega
    rw [hM] at hR hlo ⊢
    have HX := hid_of' (And.intro hR (And.intro hlo (And.intro hB hM)))
    clear hR hlo hB hM
    by_cases hkl : k < 8
    · have hki : (k : Int) < 8 := by omega
      obtain ⟨r, hr, hro⟩ := ok.at hkl
      have HR := hid_of' hr
      go_upto_region 5 with (first | (refine wpL_ix rfl _ _ rfl ok hr rfl rfl ?_) | (refine wpL_alloc rfl _ rfl zRnd ?_) | (refine wpL_stRow rfl _ _ _ rfl rfl rfl (RowAt.news wr _ _) (rnd_size hro) (two_sz (by rw [rc_len hro, rc_len rnd0_ok])) (cv_one _) ?_; go_simp))
      clear hr
      have hb5 := below_row (below_one wr (.cells (cv (rc rnd0)) 44)) (Nat.le_refl wr.heap.size) (cv (rc r))
      have r5 := (RowAt.news wr (cv (rc rnd0)) 44).rowI (cv (rc r))
      generalize (wr.alloc (.cells (cv (rc rnd0)) 44)).setRow wr.heap.size (cv (rc r)) = w4 at hb5 r5 ⊢
      have H4 := hid_of' (And.intro (HX.out.1.later hb5) (bgo HX.out.2.2.1 hb5))
      have HC := hid_of' (isOpen_any r hro w4)
      clear hb5
      cases ho : openR r
      · rw [ho] at HC
        go_wp2_with (first | (refine ldRnd hro rfl _ rfl rfl r5.in ?_) | (go_at_call 56; refine HC.out.mono ?_; rintro e w5 ⟨rfl, hb⟩; clear HC))
        go_roundw
        case rel =>
          have e : opn (l.take (k + 1)) = opn (l.take k) := by rw [opn_next HR.out, ho]; simp
          refine ⟨k + 1, by go_num, by omega, ?_, HX.out.2.1, bgo H4.out.2 hb⟩
          rw [e, HX.out.2.2.2]
          exact H4.out.1.later hb
        case measure => simp [intOf]; omega
      · rw [ho] at HC
        go_upto_region 6 with (first | (refine ldRnd hro rfl _ rfl rfl r5.in ?_) | (go_at_call 56; refine HC.out.mono ?_; rintro e w5 ⟨rfl, hb⟩; clear HC))
        have H5 := hid_of' (And.intro (H4.out.1.later hb) (bgo H4.out.2 hb))
        have HS := hid_of' (And.intro (H5.out.1.later (below_one w5 (.cells #[.int .i64 (k : Int)] 3))) (so_int w5 (k : Int)))
        clear hb r5
        go_upto_region 7 with (at_builtin; refine wpL_app (P := Tryd.prog) rfl _ _ 30 rfl 3 i0 _ 1 8 Tryd.underlying30 HI.out.1 HI.out.2.1 HI.out.2.2.1 HI.out.2.2.2 rfl rfl rfl HS.out.1 HS.out.2 (ints_one _) (by unfold maxLen; omega) (by omega) ?_; intro u6 w6 q1 q2 q3)
        obtain ⟨ua, uc, hu, _, _⟩ := q1.form
        subst hu
        have hs5 := H5.out.2.size
        have gx := grown_ch q2
        have hb6 : Below w.heap.size w w6 := by
          have hb := bgo H5.out.2 (below_one w5 (.cells #[.int .i64 (k : Int)] 3))
          exact hb.trans (gx.below (fun s hs e => by have := HX.out.2.1 s e; omega) hb.size)
        have hlo6 : ∀ b, Value.ownBlock (.slice ua (M + 1) uc) = some b → w.heap.size ≤ b := fun b hb => by
          rcases q3 b hb with q | q
          · exact HX.out.2.1 b q
          · rw [World.size_alloc] at q; omega
        have HY := hid_of' (And.intro q1 (And.intro hlo6 hb6))
        clear q1 q2 q3 gx hb6 hlo6
        go_wp2
        go_roundw
        case rel =>
          have e : opn (l.take (k + 1)) = opn (l.take k) ++ [(k : Int)] := by rw [opn_next HR.out, ho]; rfl
          refine ⟨k + 1, by go_num, by omega, ?_, HY.out.2.1, HY.out.2.2⟩
          rw [e, List.length_append, HX.out.2.2.2]
          have := HY.out.1
          simpa [ints] using this
        case measure => simp [intOf]; omega
    · have hki : ¬ (k : Int) < 8 := by omega
      have HK : Hid (l.take k = l) := by unfold Hid; rw [List.take_of_length_le]; rw [ok.1]; omega
      go_wp2
      go_ret
      have h1 := HX.out.1
      have h2 := HX.out.2.2.2
      rw [HK.out] at h1 h2
      exact ⟨_, rfl, by rw [h2]; exact h1, HX.out.2.1, HX.out.2.2.1⟩
set_option maxHeartbeats 4000000 in
theorem refOpens_is {d : Nat} {n s : Int} {l : List Rnd} {w : World} (h : RkAt d n s l w) :
    Calls Tryd.prog 42 #[.pointer (some ⟨d, 0, none⟩)] w fun e w' => ∃ u, e = .returned u ∧ Rw 3 1 u (opn l).length (ints (opn l)) w' ∧ (∀ k, u.ownBlock = some k → w.heap.size ≤ k) ∧ Below w.heap.size w w' := by
  obtain ⟨i0, hi0, hz0, hz1, hz2⟩ := info_parts infoInt
  have HI := hid_of' (And.intro hi0 (And.intro hz0 (And.intro hz1 hz2)))
  have ok := h.2
  have H := hid_of' h
  clear h hi0 hz0 hz1 hz2
  go_enter Tryd.func42, Tryd.ntmps42
  go_wp2
  go_loopw [3, 4] (fun pv kv wr => ∃ (k : Nat), kv = .int .i64 (k : Int) ∧ k ≤ 8 ∧ Rw 3 1 pv (opn (l.take k)).length (ints (opn (l.take k))) wr ∧ (∀ b, pv.ownBlock = some b → w.heap.size ≤ b) ∧ Below w.heap.size w wr) (fun _ kv _ => 8 - (intOf kv).toNat)
  case atStart => exact ⟨0, rfl, by omega, by simpa [opn, ints] using Rw.nil _ _ _, fun b hb => (by cases hb), Below.refl _ _⟩
  case round =>
    rename World => wr
    obtain ⟨k, rfl, hk, hR, hlo, hB⟩ := hrel
    obtain ⟨pa, pc, hpv, _, _⟩ := hR.form
    subst hpv
    obtain ⟨M, hM⟩ : ∃ M, (opn (l.take k)).length = M := ⟨_, rfl⟩
    have hMk : M ≤ k := by have := opn_len (l.take k); rw [List.length_take] at this; omega
    rw [hM] at hR hlo ⊢
    have HX := hid_of' (And.intro hR (And.intro hlo (And.intro hB hM)))
    by_cases hkl : k < 8
    · have hki : (k : Int) < 8 := by omega
      obtain ⟨r, hr, hro⟩ := ok.at hkl
      have HR := hid_of' hr
      have r5 := (H.out.later hB).rnd hr
      have HC := hid_of' (refOpen_any r hro wr)
      clear hr hR hlo hB hM
      cases ho : openR r
      · rw [ho] at HC
        go_wp2_with (first | (refine ldRnd hro rfl _ rfl rfl r5 ?_) | (go_at_call 65; refine HC.out.mono ?_; rintro e w5 ⟨rfl, hb⟩; clear HC))
        go_roundw
        case rel =>
          have e : opn (l.take (k + 1)) = opn (l.take k) := by rw [opn_next HR.out, ho]; simp
          refine ⟨k + 1, by go_num, by omega, ?_, HX.out.2.1, bgo HX.out.2.2.1 hb⟩
          rw [e, HX.out.2.2.2]
          exact HX.out.1.later hb
        case measure => simp [intOf]; omega
      · rw [ho] at HC
        go_upto_region 6 with (first | (refine ldRnd hro rfl _ rfl rfl r5 ?_) | (go_at_call 65; refine HC.out.mono ?_; rintro e w5 ⟨rfl, hb⟩; clear HC))
        have H5 := hid_of' (And.intro (HX.out.1.later hb) (bgo HX.out.2.2.1 hb))
        have HS := hid_of' (And.intro (H5.out.1.later (below_one w5 (.cells #[.int .i64 (k : Int)] 3))) (so_int w5 (k : Int)))
        clear hb r5
        go_upto_region 4 with (at_builtin; refine wpL_app (P := Tryd.prog) rfl _ _ 30 rfl 3 i0 _ 1 8 Tryd.underlying30 HI.out.1 HI.out.2.1 HI.out.2.2.1 HI.out.2.2.2 rfl rfl rfl HS.out.1 HS.out.2 (ints_one _) (by unfold maxLen; omega) (by omega) ?_; intro u6 w6 q1 q2 q3)
        obtain ⟨ua, uc, hu, _, _⟩ := q1.form
        subst hu
        have hs5 := H5.out.2.size
        have gx := grown_ch q2
        have hb6 : Below w.heap.size w w6 := by
          have hb := bgo H5.out.2 (below_one w5 (.cells #[.int .i64 (k : Int)] 3))
          exact hb.trans (gx.below (fun s hs e => by have := HX.out.2.1 s e; omega) hb.size)
        have hlo6 : ∀ b, Value.ownBlock (.slice ua (M + 1) uc) = some b → w.heap.size ≤ b := fun b hb => by
          rcases q3 b hb with q | q
          · exact HX.out.2.1 b q
          · rw [World.size_alloc] at q; omega
        have HY := hid_of' (And.intro q1 (And.intro hlo6 hb6))
        clear q1 q2 q3 gx hb6 hlo6
        go_wp2
        go_roundw
        case rel =>
          have e : opn (l.take (k + 1)) = opn (l.take k) ++ [(k : Int)] := by rw [opn_next HR.out, ho]; rfl
          refine ⟨k + 1, by go_num, by omega, ?_, HY.out.2.1, HY.out.2.2⟩
          rw [e, List.length_append, HX.out.2.2.2]
          have := HY.out.1
          simpa [ints] using this
        case measure => simp [intOf]; omega
    · have hki : ¬ (k : Int) < 8 := by omega
      have HK : Hid (l.take k = l) := by unfold Hid; rw [List.take_of_length_le]; rw [ok.1]; omega
      clear hR hlo hB hM
      go_wp2
      go_ret
      have h1 := HX.out.1
      have h2 := HX.out.2.2.2
      rw [HK.out] at h1 h2
      exact ⟨_, rfl, by rw [h2]; exact h1, HX.out.2.1, HX.out.2.2.1⟩
set_option maxHeartbeats 4000000 in
theorem spoilInts_is {w : World} {v : Value} {n : Nat} {xs : List Int} (h : Rw 3 1 v n (ints xs) w) (hn : n ≤ 1000000) :
    Calls Tryd.prog 43 #[v] w fun e w' => (∃ z, e = .returned z) ∧ Ch (fun k => v.ownBlock = some k) w w' := by
  obtain ⟨i0, hi0, hz0, hz1, hz2⟩ := info_parts infoInt
  have HI := hid_of' (And.intro hi0 (And.intro hz0 (And.intro hz1 hz2)))
  obtain ⟨a, c, rfl, _, _⟩ := h.form
  have H := hid_of' h
  clear h hi0 hz0 hz1 hz2
  go_enter Tryd.func43, Tryd.ntmps43
  go_wp2
  go_loopw [2] (fun kv wr => ∃ (k : Nat) (ys : List Int), kv = .int .i64 (k : Int) ∧ k ≤ n ∧ Rw 3 1 (.slice a n c) n (ints ys) wr ∧ Ch (fun k => Value.ownBlock (.slice a n c) = some k) w wr) (fun kv _ => n - (intOf kv).toNat)
  case atStart => exact ⟨0, xs, rfl, by omega, H.out, Ch.refl _ _⟩
  case round =>
    rename_i wr
    obtain ⟨k, ys, rfl, hk, hR, hC⟩ := hrel
    by_cases hkl : k < n
    · have hki : (k : Int) < (n : Int) := by omega
      obtain ⟨G, rfl⟩ := hR.someG (by omega)
      have hyl : ys.length = n := by have := hR.1; simpa [ints] using this
      obtain ⟨y, hy⟩ : ∃ y, ys[k]? = some y := ⟨_, List.getElem?_eq_getElem (by omega)⟩
      have hat := hR.atI hy
      have m1 := hat.1
      have m2 := hat.2
      have HX := hid_of' (And.intro (hR.setI (i := k) (-77)) (Ch.set (p := ⟨G, k, none⟩) hC (.inl rfl) (.int .i64 (-77))))
      clear hR hC hat hy hyl
      go_wp2
      go_roundw
      case rel => exact ⟨k + 1, _, by go_num, by omega, HX.out.1, HX.out.2⟩
      case measure => simp [intOf]; omega
    · have hki : ¬ (k : Int) < (n : Int) := by omega
      have HX := hid_of' (And.intro hR hC)
      clear hR hC
      go_wp2
      go_loopw [0, 3] (fun v9 jv wq => ∃ (j m : Nat) (zs : List Int), jv = .int .i64 (j : Int) ∧ j ≤ 40 ∧ m ≤ n + j ∧ Rw 3 1 v9 m (ints zs) wq ∧ At' w (.slice a n c) v9 ∧ Ch (fun k => Value.ownBlock (.slice a n c) = some k) w wq) (fun _ jv _ => 40 - (intOf jv).toNat)
      case atStart => exact ⟨0, n, ys, rfl, by omega, by omega, HX.out.1, At'.refl _ _, HX.out.2⟩
      case round =>
        obtain ⟨j, m, zs, rfl, hj, hm, hR, hA, hC⟩ := hrel
        obtain ⟨za, zc, hv9, _, _⟩ := hR.form
        subst hv9
        by_cases hj4 : j < 40
        · have hji : (j : Int) < 40 := by omega
          have HS := hid_of' (And.intro (hR.later (below_one _ (.cells #[.int .i64 (-78)] 3))) (so_int wr (-78)))
          have HY := hid_of' (And.intro hA hC)
          clear hR hA hC
          go_upto_region 6 with (at_builtin; refine wpL_app (P := Tryd.prog) rfl _ _ 30 rfl 3 i0 _ 1 8 Tryd.underlying30 HI.out.1 HI.out.2.1 HI.out.2.2.1 HI.out.2.2.2 rfl rfl rfl HS.out.1 HS.out.2 (ints_one _) (by unfold maxLen; omega) (by omega) ?_; intro u6 w6 q1 q2 q3)
          have hs := HY.out.2.size
          have hC6 := (HY.out.2.later (below_one _ (.cells #[.int .i64 (-78)] 3))).grown q2 (fun k hk => HY.out.1 k hk)
          have hA6 : At' w (.slice a n c) u6 := fun k hk => (q3 k hk).elim (fun q => HY.out.1 k q) (fun q => .inr (by rw [World.size_alloc] at q; omega))
          have HZ := hid_of' (And.intro q1 (And.intro hA6 hC6))
          clear q1 q2 q3 hC6 hA6
          go_wp2
          go_roundw
          case rel => exact ⟨j + 1, m + 1, zs ++ [-78], by go_num, by omega, by omega, by have := HZ.out.1; simpa [ints] using this, HZ.out.2.1, HZ.out.2.2⟩
          case measure => simp [intOf]; omega
        · have hji : ¬ (j : Int) < 40 := by omega
          have HY := hid_of' hC
          clear hR hA hC
          go_wp2
          go_end0
          exact ⟨⟨_, rfl⟩, HY.out⟩
/-- The two desks, and what holds them. -/
def PrAt (P d r N s : Nat) (l : List Rnd) (w : World) : Prop := RowAt P #[.pointer (some ⟨d, 0, none⟩), .pointer (some ⟨r, 0, none⟩)] 39 w ∧ DkAt d N s l w ∧ RkAt r N s l w
theorem PrAt.later {P d r N s : Nat} {l : List Rnd} {w w' : World} (h : PrAt P d r N s l w) (hb : Below w.heap.size w w') : PrAt P d r N s l w' := ⟨h.1.later hb, h.2.1.later hb, h.2.2.later hb⟩
theorem PrAt.c0 {P d r N s : Nat} {l : List Rnd} {w : World} (h : PrAt P d r N s l w) : w.cell? ⟨P, 0, none⟩ = some (.pointer (some ⟨d, 0, none⟩)) := h.1.cell 0
theorem PrAt.c1 {P d r N s : Nat} {l : List Rnd} {w : World} (h : PrAt P d r N s l w) : w.cell? ⟨P, 1, none⟩ = some (.pointer (some ⟨r, 0, none⟩)) := h.1.cell 1
set_option maxHeartbeats 4000000 in
theorem same_is {P d r N s : Nat} {l : List Rnd} {w : World} (h : PrAt P d r N s l w) (hs : s < 8) :
    Calls Tryd.prog 14 #[.pointer (some ⟨P, 0, none⟩)] w fun e w' => e = .returned (.bool true) ∧ Below w.heap.size w w' := by
  have c0 := h.c0
  have HO := hid_of' (open_is h.2.1)
  have ok := h.2.1.2
  have hl8 : (opn l).length ≤ 1000000 := by have := opn_len l; rw [ok.1] at this; omega
  have H := hid_of' h
  clear h
  go_enter Tryd.func14, Tryd.ntmps14
  go_upto_region 2 with (go_at_call 41; refine HO.out.mono ?_; rintro e w1 ⟨u, rfl, hu, hlo, hb1⟩; clear HO)
  have h1 := H.out.later hb1
  have c1 := h1.c1
  have HO := hid_of' (refOpens_is h1.2.2)
  have HX := hid_of' (And.intro hu (And.intro hlo hb1))
  clear c0 h1 hu hlo hb1
  go_upto_region 3 with (first | (go_at_call 42; refine HO.out.mono ?_; rintro e w2 ⟨v, rfl, hv, _, hb2⟩; clear HO; have HI := hid_of' (ints_eq (HX.out.1.later hb2).slAt hv.slAt hl8); clear hv) | (go_at_call 32; refine HI.out.mono ?_; rintro e w3 ⟨rfl, hb3⟩; clear HI))
  have HS := hid_of' (spoilInts_is ((HX.out.1.later hb2).later hb3) hl8)
  clear c1
  go_upto_region 4 with (go_at_call 43; refine HS.out.mono ?_; rintro e w4 ⟨⟨z, rfl⟩, hc4⟩; clear HS)
  have hB3 := bgo (bgo HX.out.2.2 hb2) hb3
  have hB : Below w.heap.size w w4 := hB3.trans (hc4.below (fun s hs e => by have := HX.out.2.1 s e; omega) hB3.size)
  have h4 := H.out.later hB
  clear hB3 hc4 hb2 hb3 HX H
  obtain ⟨f, hf⟩ : ∃ f, (l.any fun r => frozR s r) = f := ⟨_, rfl⟩
  obtain ⟨g, hg⟩ : ∃ f, (l.any fun r => doneR r) = f := ⟨_, rfl⟩
  have HF : ∀ X, PrAt P d r N s l X → Hid (Calls Tryd.prog 26 #[.pointer (some ⟨d, 0, none⟩)] X fun e w' => e = .returned (.bool f) ∧ Below X.heap.size X w') := fun X hX => by have := frozen_any hX.2.1 hs; rw [hf] at this; exact this
  have HF' : ∀ X, PrAt P d r N s l X → Hid (Calls Tryd.prog 44 #[.pointer (some ⟨r, 0, none⟩)] X fun e w' => e = .returned (.bool f) ∧ Below X.heap.size X w') := fun X hX => by have := refFrozen_any hX.2.2 hs; rw [hf] at this; exact this
  have HD : ∀ X, PrAt P d r N s l X → Hid (Calls Tryd.prog 36 #[.pointer (some ⟨d, 0, none⟩)] X fun e w' => e = .returned (.bool g) ∧ Below X.heap.size X w') := fun X hX => by have := done_any hX.2.1; rw [hg] at this; exact this
  have HD' : ∀ X, PrAt P d r N s l X → Hid (Calls Tryd.prog 45 #[.pointer (some ⟨r, 0, none⟩)] X fun e w' => e = .returned (.bool g) ∧ Below X.heap.size X w') := fun X hX => by have := refDone_any hX.2.2; rw [hg] at this; exact this
  clear hf hg
  have qe := eqInRnds 9995 ok ok
  have se : (l == l) = true := by simp
  have sf : (f == f) = true := by simp
  have sg : (g == g) = true := by simp
  have hgd := rnds_guard
  have q0 : ∀ z : Wld w4, (wOf z).cell? ⟨P, 0, none⟩ = some (.pointer (some ⟨d, 0, none⟩)) := fun z => (h4.later (wOf_below z)).c0
  have q1 : ∀ z : Wld w4, (wOf z).cell? ⟨P, 1, none⟩ = some (.pointer (some ⟨r, 0, none⟩)) := fun z => (h4.later (wOf_below z)).c1
  have hin := h4.2.2.rounds
  refine wp_region_cls (by kernel_rfl) (by kernel_rfl) ?_
  repeat (first | go_big_quiet_skip | (go_big_quiet_want; first | (refine qRnds ok _ rfl rfl hin.cls ?_; simp only [Act.put, List.setIfInBounds_toArray, List.set_cons_succ, List.set_cons_zero]; go_big_quiet_on) | (go_big_quiet_op; first | go_big_quiet_on | go_big_quiet_call ((first | (go_at_call 25; exact cls_of (rounds_any (h4.later (wOf_below _)).2.1)) | (go_at_call 26; exact cls_of (HF _ (h4.later (wOf_below _))).out) | (go_at_call 44; exact cls_of (HF' _ (h4.later (wOf_below _))).out) | (go_at_call 36; exact cls_of (HD _ (h4.later (wOf_below _))).out) | (go_at_call 45; exact cls_of (HD' _ (h4.later (wOf_below _))).out))))))
  refine wpQuiet_nil ?_
  rintro w1 ⟨s1, e1⟩
  have hb1 := wOf_below s1
  rw [← e1] at hb1
  clear e1 s1
  replace h4 := h4.later hb1
  replace hB := bgo hB hb1
  clear hb1
  go_wp2
  go_ret
  exact ⟨rfl, hB⟩
end Go.Proofs.YtfgcljpiidhfpaaDoor
