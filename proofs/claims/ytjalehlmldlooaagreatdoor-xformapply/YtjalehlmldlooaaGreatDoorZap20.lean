
/-
  roomy and Of, where nothing is wrong with the elements.
-/
import Derived.Test.YtjalehlmldlooaaGreatDoorZap11
import Derived.Test.YtjalehlmldlooaaGreatDoorZap19
namespace Go.Proofs.YtjalehlmldlooaaGreatDoor
open Go.RowKit
set_option maxRecDepth 100000

theorem Kp.of_grown {x : Nat} {w w' : World} (h : w.grownBy w' (some x)) : Kp x w w' := ⟨h.os, h.tape, h.output, h.size, fun k hk hne => h.block k hk (by simpa using hne)⟩
theorem MpAt.kp {kb n x : Nat} {f : Idn → Option Int} {w w' : World} (h : MpAt kb n f w) (k : Kp x w w') (hx : ¬ kb = x) : MpAt kb n f w' := h.block (k.block _ h.lt hx)
theorem SlE.kp {x : Nat} {w w' : World} {v : Value} {l : List El} (h : SlE w v l) (k : Kp x w w') (hx : ∀ g o_ c, v = .slice (some ⟨g, o_, none⟩) l.length c → l ≠ [] → ¬ g = x) : SlE w' v l := by
  rcases h with h | ⟨g, o_, c, h1, h2⟩
  · exact .inl h
  · by_cases hl : l = []
    · subst hl; exact .inl ⟨rfl, _, _, h1⟩
    · exact .inr ⟨g, o_, c, h1, h2.kp k (hx g o_ c h1 hl)⟩
theorem run_makeMapH (w : World) (n : Int) : (Instr.makeMap 57 (some (.int .i64 n))).run Tryz.prog w = .ok (.map (some w.heap.size)) (w.alloc (.map #[] 0)) := by
  have hu := run_underlying Tryz.underlying57 w
  simp [Instr.makeMap, Sem.run_bind, hu, asInt, newObj]
  rfl

set_option maxHeartbeats 1000000 in
theorem roomy_any (n : Nat) (w : World) :
    Calls Tryz.prog 15 #[.int .i64 (n : Int)] w fun r w' => ∃ mb tb kb : Nat, r = .returned (pv mb) ∧ w.heap.size ≤ tb ∧ tb < kb ∧ kb < mb ∧ RowAt mb #[pv tb, .map (some kb)] 59 w' ∧ RowAt tb #[.int .i64 32, .pointer none] 89 w' ∧ MpAt kb 0 (fun _ => none) w' ∧ Below w.heap.size w w' := by
  have HN := hid_of' (new_ok 32 w (by decide) (by decide))
  have hmm := run_makeMapH
  unfold pv at *
  go_enter Tryz.func15, Tryz.ntmps15
  go_wp2_with (go_at_call 38; refine HN.out.mono ?_; rintro r w1 ⟨rfl, hr1, hb1⟩)
  go_ret
  have hlt := hr1.lt
  exact ⟨w1.heap.size + 1, w.heap.size, w1.heap.size, rfl, Nat.le_refl _, hlt, Nat.lt_succ_self _, row_new2 w1 _ _ _, hr1.later (below_two w1 _ _), (MpAt.new w1).later (below_one _ _), bgo hb1 (below_two w1 _ _)⟩

/-- The ranks behind k rounds. -/
def rkF (l : List El) (N : Int) : Nat → Idn → Option Int
  | 0 => fun _ => none
  | k + 1 => match l[k]? with
    | some e => putF (rkF l N k) e.id (rankN k N)
    | none => rkF l N k
theorem rkF_next {l : List El} {N : Int} {k : Nat} {e : El} (h : l[k]? = some e) : putF (rkF l N k) e.id (rankN k N) = rkF l N (k + 1) := by
  show _ = match l[k]? with
    | some e => putF (rkF l N k) e.id (rankN k N)
    | none => rkF l N k
  rw [h]
theorem rkF_none {l : List El} {N : Int} : ∀ {k : Nat} {i : Idn}, (∀ (j : Nat) (e : El), j < k → l[j]? = some e → e.id ≠ i) → rkF l N k i = none
  | 0, _, _ => rfl
  | k + 1, i, h => by
    have ih := rkF_none (N := N) (k := k) (i := i) (fun j e hj => h j e (Nat.lt_succ_of_lt hj))
    unfold rkF
    cases hk : l[k]? with
    | none => exact ih
    | some e =>
      show putF _ _ _ _ = _
      unfold putF
      rw [if_neg (fun q => h k e (Nat.lt_succ_self k) hk q.symm)]
      exact ih
/-- No two elements have one ID. -/
def Apart (l : List El) : Prop := ∀ (i j : Nat) (x y : El), i < j → l[i]? = some x → l[j]? = some y → x.id ≠ y.id
theorem rkF_at {l : List El} {N : Int} (hd : Apart l) : ∀ {k j : Nat} {e : El}, j < k → l[j]? = some e → rkF l N k e.id = some (rankN j N)
  | 0, _, _, h, _ => absurd h (by omega)
  | k + 1, j, e, hj, he => by
    unfold rkF
    cases hk : l[k]? with
    | none => exact rkF_at hd (k := k) (by have := (List.getElem?_eq_some_iff.1 he).1; have := List.getElem?_eq_none_iff.1 hk; omega) he
    | some x =>
      show putF _ _ _ _ = _
      unfold putF
      by_cases ej : j = k
      · subst ej
        rw [hk] at he
        cases he
        rw [if_pos rfl]
      · rw [if_neg (hd j k e x (by omega) he hk)]
        exact rkF_at hd (by omega) he
/-- An element that a model takes. -/
def El.Good (e : El) : Prop := e.id.In ∧ rightC e.ch = true ∧ fairH e.hd = true
/-- A model of a row, in memory; what its map holds. -/
structure MdAt (mb tb kb n : Nat) (R : Rows) (l : List El) (f : Idn → Option Int) (w : World) : Prop where
  row : RowAt mb #[pv tb, .map (some kb)] 59 w
  tree : TrL R tb 32 l w
  map : MpAt kb n f w
  no : R.no tb
  nom : R.no mb
  hi : R.hi ≤ w.heap.size
/-- The blocks that a model's nodes keep clear of. -/
def Rmd (tb kb mb : Nat) (h1 : tb < kb) (h2 : kb < mb) : Rows := ⟨fun g => g = tb ∨ g = kb ∨ g = mb, mb + 1, fun g h => by omega⟩
section
variable {ops : Array Oper} {rest : List Oper} {o : Oper} {A : Act} {w : World} {Q : Exit → Act → World → Prop}
theorem opw_loadI {K : Act → World → Prop} (x : Operand) (ho : o.op = .load 32 x) {b off : Nat} (hx : A.eval x = .pointer (some ⟨b, off, none⟩)) {i : Idn} (h : CsIn b off (idc i.a i.b i.c) w)
    (k : K (A.put o.dst (.agg (idc i.a i.b i.c))) w) : o.wp Tryz.prog A w K Q := by
  unfold Oper.wp execOp
  simp only [ho, hx, Instr.loadAt, Instr.sureAddr, Sem.run_bind, Sem.run_pure, Result.andThen_ok, run_loadVar_in h Tryz.underlying32 rfl (id_size _ _ _)]
  exact k
theorem wpL_mapPut (hgd : o.guard = none) (m x v : Operand) (ho : o.op = .mapUpdate 57 m x v) {kb n : Nat} {f : Idn → Option Int} {i : Idn} {z : Int} (hM : MpAt kb n f w) (hi : i.In) (hm : A.eval m = .map (some kb)) (hx : A.eval x = .agg (idc i.a i.b i.c)) (hv : A.eval v = .int .i64 z) (hz : In64 z) (hn : n < 1099511627776)
    (k : ∀ w', MpAt kb (n + 1) (putF f i z) w' → w.grownBy w' (some kb) → wpList Tryz.prog ops Q rest (A.put o.dst undef) w') : wpList Tryz.prog ops Q (o :: rest) A w := by
  refine wpList_plain hgd fun K' hK' => ?_
  obtain ⟨w', hrun, r1, r2⟩ := hM.put hi hz hn
  unfold Idn.v at hrun
  unfold Oper.wp
  simp [execOp, ho, hm, hx, hv, hrun, Result.andThen]
  exact hK' _ _ (k w' r1 r2)
end

set_option maxHeartbeats 1000000 in
/-- Of, where nothing is wrong. -/
theorem of_okN {w : World} {u : Value} {l : List El} (hu : SlE w u l) (hn : l.length ≤ 1000000) (hg : ∀ (i : Nat) (e : El), l[i]? = some e → e.Good) (hd : Apart l) :
    Calls Tryz.prog 5 #[u] w fun r w' => ∃ mb tb kb n R, n = l.length ∧ r = .returned (.tuple #[pv mb, .nilIface]) ∧ w.heap.size ≤ tb ∧ tb < kb ∧ kb < mb ∧ MdAt mb tb kb n R l (rkF l l.length l.length) w' ∧ Below w.heap.size w w' := by
  obtain ⟨a', c', rfl⟩ := hu.form
  have HR := hid_of' (roomy_any l.length w)
  have HG : Hid (∀ g o_ c, (Value.slice a' l.length c') = .slice (some ⟨g, o_, none⟩) l.length c → l ≠ [] → g < w.heap.size) := by
    intro g o_ c hv h0
    rcases hu with h | ⟨g2, o2, c2, hv2, hc⟩
    · exact absurd h.1 h0
    · rw [hv] at hv2
      cases hv2
      exact hc.lt h0
  go_enter Tryz.func5, Tryz.ntmps5
  unfold pv at HR
  go_wp2_with (go_at_call 15; refine HR.out.mono ?_; rintro r w1 ⟨mb, tb, kb, rfl, q1, q2, q3, hm1, ht1, hM1, hb1⟩)
  clear HR
  have hu1 := hu.later hb1
  go_loopw [13] (fun i wr => ∃ k : Nat, i = .int .i64 (k : Int) ∧ k ≤ l.length ∧ RowAt mb #[pv tb, .map (some kb)] 59 wr ∧ RowAt tb #[.int .i64 32, .pointer none] 89 wr ∧ MpAt kb k (rkF l l.length k) wr ∧ SlE wr (.slice a' l.length c') l ∧ Below w.heap.size w wr) (fun i _ => l.length - (intOf i).toNat)
  case atStart => exact ⟨0, rfl, Nat.zero_le _, hm1, ht1, hM1, hu1, hb1⟩
  case round =>
    obtain ⟨k, rfl, hk, hm, ht, hM, hs, hB⟩ := hrel
    clear hm1 ht1 hM1 hu1 hb1
    by_cases hlt : k < l.length
    · have hki : (k : Int) < (l.length : Int) := by omega
      obtain ⟨e, he⟩ : ∃ e, l[k]? = some e := ⟨_, List.getElem?_eq_getElem hlt⟩
      obtain ⟨gi, gc, gh⟩ := hg k e he
      have hfn : (rkF l l.length k e.id).isSome = false := by rw [rkF_none (fun j x hj hx => hd j k x e hj hx he)]; rfl
      rcases hs with ⟨h0, _⟩ | ⟨g, o_, c, hv, hc⟩
      · exfalso; subst h0; simp at hlt
      simp only [Value.slice.injEq] at hv
      obtain ⟨rfl, _, rfl⟩ := hv
      have hce := hc k e he
      go_upto_region 5 with (first | (refine wpL_loadE rfl _ rfl rfl hce ?_) | (refine wpL_storeE rfl _ _ rfl rfl rfl (row_new wr _ _) ?_))
      have hr5 := (row_new wr #[.int .i64 0, .int .i64 0, .int .i64 0, .int .i32 0, .int .i64 0] 49).put (ev e)
      have hB5 : Below wr.heap.size wr ((wr.alloc (.cells #[.int .i64 0, .int .i64 0, .int .i64 0, .int .i32 0, .int .i64 0] 49)).setRow wr.heap.size (ev e)) := below_row (below_one wr _) (Nat.le_refl _) _
      generalize (wr.alloc (.cells #[.int .i64 0, .int .i64 0, .int .i64 0, .int .i32 0, .int .i64 0] 49)).setRow wr.heap.size (ev e) = W5 at hr5 hB5 ⊢
      have HF := hid_of' (flaw_ok (hm.later hB5) (hM.later hB5) gi gc gh hfn)
      have HI := hid_of' gi
      have HM := hid_of' hM
      have HS := hid_of' (show SlE wr (.slice (some ⟨g, o_, none⟩) l.length c') l from .inr ⟨g, o_, c', rfl, hc⟩)
      clear hM hfn gi gc gh hce hc
      unfold pv at HF
      go_upto_region 8 with (first | (refine wpL_loadE rfl _ rfl rfl hr5.in ?_) | (go_at_call 16; refine HF.out.mono ?_; rintro r W8 ⟨rfl, hb8⟩; clear HF))
      have hB8 := bgo hB5 hb8
      have hm8 := hm.later hB8
      have hI8 : CsIn wr.heap.size 0 (idc e.id.a e.id.b e.id.c) W8 := id_at (hr5.later hb8).in
      clear hr5 hb8 hB5
      refine wp_region_tail 10 (by kernel_rfl) (fun _ => none) (by kernel_rfl) (by kernel_rfl) (by decide) (fun i v x => match i with
        | 0 => v = .pointer (some ⟨mb, 0, none⟩)
        | 1 => v = .pointer (some ⟨mb, 0, none⟩)
        | 2 => v = .pointer (some ⟨mb, 1, none⟩)
        | 3 => v = .map (some kb)
        | 4 => v = .pointer (some ⟨wr.heap.size, 0, none⟩)
        | 5 => v = .agg (idc e.id.a e.id.b e.id.c)
        | 6 => v = .int .i64 (k : Int)
        | 7 => v = .slice (some ⟨g, o_, none⟩) l.length c'
        | 8 => v = .int .i64 (l.length : Int)
        | 9 => v = .int .i64 (rankN k l.length)
        | _ => True) (fun _ => false) (fun _ _ _ _ h => by cases h) ?_ ?_ ?_
      · intro i v x x' hR hb
        match i, hR with
        | 0, h => exact h
        | 1, h => exact h
        | 2, h => exact h
        | 3, h => exact h
        | 4, h => exact h
        | 5, h => exact h
        | 6, h => exact h
        | 7, h => exact h
        | 8, h => exact h
        | 9, h => exact h
        | m + 10, h => exact h
      · intro i o hi ho q x vals hX hdep hoth
        have t0 : q.tmps[0]? = some (.slice (some ⟨g, o_, none⟩) l.length c') := by rw [hoth 0 (by kernel_rfl)]; rfl
        have t4 : q.tmps[4]? = some (.pointer (some ⟨mb, 0, none⟩)) := by rw [hoth 4 (by kernel_rfl)]; rfl
        have t5 : q.tmps[5]? = some (.int .i64 (k : Int)) := by rw [hoth 5 (by kernel_rfl)]; rfl
        have t6 : q.tmps[6]? = some (.pointer (some ⟨wr.heap.size, 0, none⟩)) := by rw [hoth 6 (by kernel_rfl)]; rfl
        match i, hi, ho with
        | 0, _, ho =>
          simp only [List.getElem?_cons_zero, Option.some.injEq] at ho
          subst ho
          unfold Oper.wp
          simp [execOp, go_sem, t4]
          exact came _ rfl (Below.refl _ _) rfl (fun h => absurd h (by decide))
        | 1, _, ho =>
          simp only [List.getElem?_cons_succ, List.getElem?_cons_zero, Option.some.injEq] at ho
          subst ho
          obtain ⟨u0, e0⟩ := hdep ⟨0, .data⟩ (by simp) rfl _ 26 rfl rfl
          rw [show vals 0 = .pointer (some ⟨mb, 0, none⟩) from e0] at u0
          unfold Oper.wp
          simp [execOp, go_sem, u0]
          exact came _ rfl (Below.refl _ _) rfl (fun h => absurd h (by decide))
        | 2, _, ho =>
          simp only [List.getElem?_cons_succ, List.getElem?_cons_zero, Option.some.injEq] at ho
          subst ho
          obtain ⟨u1, e1⟩ := hdep ⟨1, .data⟩ (by simp) rfl _ 27 rfl rfl
          rw [show vals 1 = .pointer (some ⟨mb, 0, none⟩) from e1] at u1
          unfold Oper.wp
          simp [execOp, go_sem, u1]
          exact came _ rfl (Below.refl _ _) rfl (fun h => absurd h (by decide))
        | 3, _, ho =>
          simp only [List.getElem?_cons_succ, List.getElem?_cons_zero, Option.some.injEq] at ho
          subst ho
          obtain ⟨u2, e2⟩ := hdep ⟨2, .data⟩ (by simp) rfl _ 28 rfl rfl
          rw [show vals 2 = .pointer (some ⟨mb, 1, none⟩) from e2] at u2
          have cc : x.cell? ⟨mb, 1, none⟩ = some (.map (some kb)) := (hm8.later hX).cell 1
          unfold Oper.wp
          simp [execOp, go_sem, u2, cc]
          exact came _ rfl (Below.refl _ _) rfl (fun h => absurd h (by decide))
        | 4, _, ho =>
          simp only [List.getElem?_cons_succ, List.getElem?_cons_zero, Option.some.injEq] at ho
          subst ho
          unfold Oper.wp
          simp [execOp, go_sem, t6]
          exact came _ rfl (Below.refl _ _) rfl (fun h => absurd h (by decide))
        | 5, _, ho =>
          simp only [List.getElem?_cons_succ, List.getElem?_cons_zero, Option.some.injEq] at ho
          subst ho
          obtain ⟨u4, e4⟩ := hdep ⟨4, .data⟩ (by simp) rfl _ 30 rfl rfl
          rw [show vals 4 = .pointer (some ⟨wr.heap.size, 0, none⟩) from e4] at u4
          exact opw_loadI _ rfl (by simp [Act.eval, u4]) (hI8.later hX) (came _ rfl (Below.refl _ _) rfl (fun h => absurd h (by decide)))
        | 6, _, ho =>
          simp only [List.getElem?_cons_succ, List.getElem?_cons_zero, Option.some.injEq] at ho
          subst ho
          unfold Oper.wp
          simp [execOp, go_sem, t5]
          exact came _ rfl (Below.refl _ _) rfl (fun h => absurd h (by decide))
        | 7, _, ho =>
          simp only [List.getElem?_cons_succ, List.getElem?_cons_zero, Option.some.injEq] at ho
          subst ho
          unfold Oper.wp
          simp [execOp, go_sem, t0]
          exact came _ rfl (Below.refl _ _) rfl (fun h => absurd h (by decide))
        | 8, _, ho =>
          simp only [List.getElem?_cons_succ, List.getElem?_cons_zero, Option.some.injEq] at ho
          subst ho
          obtain ⟨u7, e7⟩ := hdep ⟨7, .data⟩ (by simp) rfl _ 33 rfl rfl
          rw [show vals 7 = .slice (some ⟨g, o_, none⟩) l.length c' from e7] at u7
          unfold Oper.wp
          simp [go_sem, u7]
          exact came _ rfl (Below.refl _ _) rfl (fun h => absurd h (by decide))
        | 9, _, ho =>
          simp only [List.getElem?_cons_succ, List.getElem?_cons_zero, Option.some.injEq] at ho
          subst ho
          obtain ⟨u6, e6⟩ := hdep ⟨6, .data⟩ (by simp) rfl _ 32 rfl rfl
          rw [show vals 6 = .int .i64 (k : Int) from e6] at u6
          obtain ⟨u8, e8⟩ := hdep ⟨8, .data⟩ (by simp) rfl _ 34 rfl rfl
          rw [show vals 8 = .int .i64 (l.length : Int) from e8] at u8
          unfold Oper.wp
          simp [go_sem, u6, u8]
          refine (evenRank_0 (k : Int) (l.length : Int) x (by omega) (by omega)).mono ?_
          rintro r x1 ⟨rfl, hw1⟩; have hb1 : Below x.heap.size x x1 := by rw [hw1]; exact Below.refl _ _
          exact came _ rfl hb1 rfl (fun h => absurd h (by decide))
        | m + 10, hi, _ => exact absurd hi (by omega)
      · intro vals x' hX hR _
        have r3 : vals 3 = .map (some kb) := hR 3 (by decide)
        have r5 : vals 5 = .agg (idc e.id.a e.id.b e.id.c) := hR 5 (by decide)
        have r9 : vals 9 = .int .i64 (rankN k l.length) := hR 9 (by decide)
        have hb9 := bgo hB8 hX
        have hM9 := HM.out.later hb9
        have hrb := rankN_b (k := (k : Int)) (n := (l.length : Int)) (by omega) hki
        simp only [List.take, List.drop, putAll, r3, r5, r9]
        have HZ : Hid (In64 (rankN k l.length) ∧ k < 1099511627776) := ⟨⟨by omega, by omega⟩, by omega⟩
        clear hrb
        simp only [List.setIfInBounds_toArray, List.set_cons_succ, List.set_cons_zero]
        refine wpL_mapPut rfl _ _ _ rfl hM9 HI.out rfl rfl rfl HZ.out.1 HZ.out.2 ?_
        intro w9 hM' hgr
        simp only [Act.put]
        go_wp2
        have hkp := Kp.of_grown hgr
        have hlk := hM9.lt
        clear hM9 r3 r5 r9 hR
        go_roundw
        case rel =>
          refine ⟨k + 1, by go_num, by omega, (hm.later hb9).kp hkp (by omega), (ht.later hb9).kp hkp (by omega), ?_, (HS.out.later hb9).kp hkp ?_, hkp.new (bgo hB hb9) (by omega)⟩
          · rw [← rkF_next he]; exact hM'
          · intro g2 o2 c2 e2 hl2
            have e3 := HG.out g2 o2 c2 e2 hl2
            omega
        case measure => simp [intOf]; omega
    · obtain rfl : k = l.length := by omega
      have c0 : wr.cell? ⟨mb, 0, none⟩ = some (.pointer (some ⟨tb, 0, none⟩)) := hm.cell 0
      have hT : TrL (Rmd tb kb mb q2 q3) tb 32 [] wr := ⟨[], .pointer none, ht, .inl ⟨rfl, rfl⟩, rfl, trivial⟩
      have hlm := hm.lt
      have HI := hid_of' (insert_any hT 0 l _ hs (Nat.le_refl _) (by simp; omega) (.inl rfl) (by decide) (by decide) hlm)
      unfold pv at HI
      clear hT ht
      go_wp2_with (go_at_call 19; refine HI.out.mono ?_; rintro r w9 ⟨rfl, hT9, hkp⟩)
      go_ret2
      refine ⟨mb, tb, kb, l.length, Rmd tb kb mb q2 q3, rfl, rfl, q1, q2, q3, ⟨hm.kp hkp (by omega), ?_, hM.kp hkp (by omega), .inl rfl, .inr (.inr rfl), Nat.le_trans hlm hkp.size⟩, hkp.new hB q1⟩
      simpa using hT9
theorem of_ok {w : World} {u : Value} {l : List El} (hu : SlE w u l) (hn : l.length ≤ 1000000) (hg : ∀ (i : Nat) (e : El), l[i]? = some e → e.Good) (hd : Apart l) :
    Calls Tryz.prog 5 #[u] w fun r w' => ∃ mb tb kb n R, r = .returned (.tuple #[pv mb, .nilIface]) ∧ w.heap.size ≤ tb ∧ tb < kb ∧ kb < mb ∧ MdAt mb tb kb n R l (rkF l l.length l.length) w' ∧ Below w.heap.size w w' := by
  refine (of_okN hu hn hg hd).mono ?_
  rintro r w' ⟨mb, tb, kb, n, R, _, h⟩
  exact ⟨mb, tb, kb, n, R, h⟩
end Go.Proofs.YtjalehlmldlooaaGreatDoor
