
/-
  Of, and what its Model keeps clear of; barrowref05.Of.
-/
import Derived.Test.YtjalehlmldlooaaGreatDoorZap40
namespace Go.Proofs.YtjalehlmldlooaaGreatDoor
open Go.RowKit Go.Extern.Stop Go.Stop Go.Extern
set_option maxRecDepth 100000

def Rmx (tb kb mb : Nat) (h1 : tb < kb) (h2 : kb < mb) : Rows := ⟨fun g => g ≤ tb ∨ g = kb ∨ g = mb, mb + 1, fun g h => by omega⟩
set_option maxHeartbeats 1000000 in
/-- Of, where nothing is wrong. -/
theorem of_okX {w : World} {u : Value} {l : List El} (hu : SlE w u l) (hn : l.length ≤ 1000000) (hg : ∀ (i : Nat) (e : El), l[i]? = some e → e.Good) (hd : Apart l) :
    Calls Tryz.prog 5 #[u] w fun r w' => ∃ mb tb kb n R, n = l.length ∧ (∀ x, x < w.heap.size → R.no x) ∧ r = .returned (.tuple #[pv mb, .nilIface]) ∧ w.heap.size ≤ tb ∧ tb < kb ∧ kb < mb ∧ MdAt mb tb kb n R l (rkF l l.length l.length) w' ∧ Below w.heap.size w w' := by
  obtain ⟨a', c', rfl⟩ := hu.form
  have HR := hid_of' (roomy_any l.length w)
  have HG : Hid (∀ g o_ c, (Value.slice a' l.length c') = .slice (some ⟨g, o_, none⟩) l.length c → l ≠ [] → g < w.heap.size) := by
    intro g o_ c hv h0
    rcases hu with h | ⟨g2, o2, c2, hv2, hc⟩
    · exact absurd h.1 h0
    · rw [hv] at hv2
      cases hv2
      exact hc.lt h0
  go_enter Tryz.func5, Tryz.ntmps5
  unfold pv at HR
  go_wp2_with (go_at_call 15; refine HR.out.mono ?_; rintro r w1 ⟨mb, tb, kb, rfl, q1, q2, q3, hm1, ht1, hM1, hb1⟩)
  clear HR
  have hu1 := hu.later hb1
  go_loopw [13] (fun i wr => ∃ k : Nat, i = .int .i64 (k : Int) ∧ k ≤ l.length ∧ RowAt mb #[pv tb, .map (some kb)] 59 wr ∧ RowAt tb #[.int .i64 32, .pointer none] 89 wr ∧ MpAt kb k (rkF l l.length k) wr ∧ SlE wr (.slice a' l.length c') l ∧ Below w.heap.size w wr) (fun i _ => l.length - (intOf i).toNat)
  case atStart => exact ⟨0, rfl, Nat.zero_le _, hm1, ht1, hM1, hu1, hb1⟩
  case round =>
    obtain ⟨k, rfl, hk, hm, ht, hM, hs, hB⟩ := hrel
    clear hm1 ht1 hM1 hu1 hb1
    by_cases hlt : k < l.length
    · have hki : (k : Int) < (l.length : Int) := by omega
      obtain ⟨e, he⟩ : ∃ e, l[k]? = some e := ⟨_, List.getElem?_eq_getElem hlt⟩
      obtain ⟨gi, gc, gh⟩ := hg k e he
      have hfn : (rkF l l.length k e.id).isSome = false := by rw [rkF_none (fun j x hj hx => hd j k x e hj hx he)]; rfl
      rcases hs with ⟨h0, _⟩ | ⟨g, o_, c, hv, hc⟩
      · exfalso; subst h0; simp at hlt
      simp only [Value.slice.injEq] at hv
      obtain ⟨rfl, _, rfl⟩ := hv
      have hce := hc k e he
      go_upto_region 5 with (first | (refine wpL_loadE rfl _ rfl rfl hce ?_) | (refine wpL_storeE rfl _ _ rfl rfl rfl (row_new wr _ _) ?_))
      have hr5 := (row_new wr #[.int .i64 0, .int .i64 0, .int .i64 0, .int .i32 0, .int .i64 0] 49).put (ev e)
      have hB5 : Below wr.heap.size wr ((wr.alloc (.cells #[.int .i64 0, .int .i64 0, .int .i64 0, .int .i32 0, .int .i64 0] 49)).setRow wr.heap.size (ev e)) := below_row (below_one wr _) (Nat.le_refl _) _
      generalize (wr.alloc (.cells #[.int .i64 0, .int .i64 0, .int .i64 0, .int .i32 0, .int .i64 0] 49)).setRow wr.heap.size (ev e) = W5 at hr5 hB5 ⊢
      have HF := hid_of' (flaw_ok (hm.later hB5) (hM.later hB5) gi gc gh hfn)
      have HI := hid_of' gi
      have HM := hid_of' hM
      have HS := hid_of' (show SlE wr (.slice (some ⟨g, o_, none⟩) l.length c') l from .inr ⟨g, o_, c', rfl, hc⟩)
      clear hM hfn gi gc gh hce hc
      unfold pv at HF
      go_upto_region 8 with (first | (refine wpL_loadE rfl _ rfl rfl hr5.in ?_) | (go_at_call 16; refine HF.out.mono ?_; rintro r W8 ⟨rfl, hb8⟩; clear HF))
      have hB8 := bgo hB5 hb8
      have hm8 := hm.later hB8
      have hI8 : CsIn wr.heap.size 0 (idc e.id.a e.id.b e.id.c) W8 := id_at (hr5.later hb8).in
      clear hr5 hb8 hB5
      refine wp_region_tail 10 (by kernel_rfl) (fun _ => none) (by kernel_rfl) (by kernel_rfl) (by decide) (fun i v x => match i with
        | 0 => v = .pointer (some ⟨mb, 0, none⟩)
        | 1 => v = .pointer (some ⟨mb, 0, none⟩)
        | 2 => v = .pointer (some ⟨mb, 1, none⟩)
        | 3 => v = .map (some kb)
        | 4 => v = .pointer (some ⟨wr.heap.size, 0, none⟩)
        | 5 => v = .agg (idc e.id.a e.id.b e.id.c)
        | 6 => v = .int .i64 (k : Int)
        | 7 => v = .slice (some ⟨g, o_, none⟩) l.length c'
        | 8 => v = .int .i64 (l.length : Int)
        | 9 => v = .int .i64 (rankN k l.length)
        | _ => True) (fun _ => false) (fun _ _ _ _ h => by cases h) ?_ ?_ ?_
      · intro i v x x' hR hb
        match i, hR with
        | 0, h => exact h
        | 1, h => exact h
        | 2, h => exact h
        | 3, h => exact h
        | 4, h => exact h
        | 5, h => exact h
        | 6, h => exact h
        | 7, h => exact h
        | 8, h => exact h
        | 9, h => exact h
        | m + 10, h => exact h
      · intro i o hi ho q x vals hX hdep hoth
        have t0 : q.tmps[0]? = some (.slice (some ⟨g, o_, none⟩) l.length c') := by rw [hoth 0 (by kernel_rfl)]; rfl
        have t4 : q.tmps[4]? = some (.pointer (some ⟨mb, 0, none⟩)) := by rw [hoth 4 (by kernel_rfl)]; rfl
        have t5 : q.tmps[5]? = some (.int .i64 (k : Int)) := by rw [hoth 5 (by kernel_rfl)]; rfl
        have t6 : q.tmps[6]? = some (.pointer (some ⟨wr.heap.size, 0, none⟩)) := by rw [hoth 6 (by kernel_rfl)]; rfl
        match i, hi, ho with
        | 0, _, ho =>
          simp only [List.getElem?_cons_zero, Option.some.injEq] at ho
          subst ho
          unfold Oper.wp
          simp [execOp, go_sem, t4]
          exact came _ rfl (Below.refl _ _) rfl (fun h => absurd h (by decide))
        | 1, _, ho =>
          simp only [List.getElem?_cons_succ, List.getElem?_cons_zero, Option.some.injEq] at ho
          subst ho
          obtain ⟨u0, e0⟩ := hdep ⟨0, .data⟩ (by simp) rfl _ 26 rfl rfl
          rw [show vals 0 = .pointer (some ⟨mb, 0, none⟩) from e0] at u0
          unfold Oper.wp
          simp [execOp, go_sem, u0]
          exact came _ rfl (Below.refl _ _) rfl (fun h => absurd h (by decide))
        | 2, _, ho =>
          simp only [List.getElem?_cons_succ, List.getElem?_cons_zero, Option.some.injEq] at ho
          subst ho
          obtain ⟨u1, e1⟩ := hdep ⟨1, .data⟩ (by simp) rfl _ 27 rfl rfl
          rw [show vals 1 = .pointer (some ⟨mb, 0, none⟩) from e1] at u1
          unfold Oper.wp
          simp [execOp, go_sem, u1]
          exact came _ rfl (Below.refl _ _) rfl (fun h => absurd h (by decide))
        | 3, _, ho =>
          simp only [List.getElem?_cons_succ, List.getElem?_cons_zero, Option.some.injEq] at ho
          subst ho
          obtain ⟨u2, e2⟩ := hdep ⟨2, .data⟩ (by simp) rfl _ 28 rfl rfl
          rw [show vals 2 = .pointer (some ⟨mb, 1, none⟩) from e2] at u2
          have cc : x.cell? ⟨mb, 1, none⟩ = some (.map (some kb)) := (hm8.later hX).cell 1
          unfold Oper.wp
          simp [execOp, go_sem, u2, cc]
          exact came _ rfl (Below.refl _ _) rfl (fun h => absurd h (by decide))
        | 4, _, ho =>
          simp only [List.getElem?_cons_succ, List.getElem?_cons_zero, Option.some.injEq] at ho
          subst ho
          unfold Oper.wp
          simp [execOp, go_sem, t6]
          exact came _ rfl (Below.refl _ _) rfl (fun h => absurd h (by decide))
        | 5, _, ho =>
          simp only [List.getElem?_cons_succ, List.getElem?_cons_zero, Option.some.injEq] at ho
          subst ho
          obtain ⟨u4, e4⟩ := hdep ⟨4, .data⟩ (by simp) rfl _ 30 rfl rfl
          rw [show vals 4 = .pointer (some ⟨wr.heap.size, 0, none⟩) from e4] at u4
          exact opw_loadI _ rfl (by simp [Act.eval, u4]) (hI8.later hX) (came _ rfl (Below.refl _ _) rfl (fun h => absurd h (by decide)))
        | 6, _, ho =>
          simp only [List.getElem?_cons_succ, List.getElem?_cons_zero, Option.some.injEq] at ho
          subst ho
          unfold Oper.wp
          simp [execOp, go_sem, t5]
          exact came _ rfl (Below.refl _ _) rfl (fun h => absurd h (by decide))
        | 7, _, ho =>
          simp only [List.getElem?_cons_succ, List.getElem?_cons_zero, Option.some.injEq] at ho
          subst ho
          unfold Oper.wp
          simp [execOp, go_sem, t0]
          exact came _ rfl (Below.refl _ _) rfl (fun h => absurd h (by decide))
        | 8, _, ho =>
          simp only [List.getElem?_cons_succ, List.getElem?_cons_zero, Option.some.injEq] at ho
          subst ho
          obtain ⟨u7, e7⟩ := hdep ⟨7, .data⟩ (by simp) rfl _ 33 rfl rfl
          rw [show vals 7 = .slice (some ⟨g, o_, none⟩) l.length c' from e7] at u7
          unfold Oper.wp
          simp [go_sem, u7]
          exact came _ rfl (Below.refl _ _) rfl (fun h => absurd h (by decide))
        | 9, _, ho =>
          simp only [List.getElem?_cons_succ, List.getElem?_cons_zero, Option.some.injEq] at ho
          subst ho
          obtain ⟨u6, e6⟩ := hdep ⟨6, .data⟩ (by simp) rfl _ 32 rfl rfl
          rw [show vals 6 = .int .i64 (k : Int) from e6] at u6
          obtain ⟨u8, e8⟩ := hdep ⟨8, .data⟩ (by simp) rfl _ 34 rfl rfl
          rw [show vals 8 = .int .i64 (l.length : Int) from e8] at u8
          unfold Oper.wp
          simp [go_sem, u6, u8]
          refine (evenRank_0 (k : Int) (l.length : Int) x (by omega) (by omega)).mono ?_
          rintro r x1 ⟨rfl, hw1⟩; have hb1 : Below x.heap.size x x1 := by rw [hw1]; exact Below.refl _ _
          exact came _ rfl hb1 rfl (fun h => absurd h (by decide))
        | m + 10, hi, _ => exact absurd hi (by omega)
      · intro vals x' hX hR _
        have r3 : vals 3 = .map (some kb) := hR 3 (by decide)
        have r5 : vals 5 = .agg (idc e.id.a e.id.b e.id.c) := hR 5 (by decide)
        have r9 : vals 9 = .int .i64 (rankN k l.length) := hR 9 (by decide)
        have hb9 := bgo hB8 hX
        have hM9 := HM.out.later hb9
        have hrb := rankN_b (k := (k : Int)) (n := (l.length : Int)) (by omega) hki
        simp only [List.take, List.drop, putAll, r3, r5, r9]
        have HZ : Hid (In64 (rankN k l.length) ∧ k < 1099511627776) := ⟨⟨by omega, by omega⟩, by omega⟩
        clear hrb
        simp only [List.setIfInBounds_toArray, List.set_cons_succ, List.set_cons_zero]
        refine wpL_mapPut rfl _ _ _ rfl hM9 HI.out rfl rfl rfl HZ.out.1 HZ.out.2 ?_
        intro w9 hM' hgr
        simp only [Act.put]
        go_wp2
        have hkp := Kp.of_grown hgr
        have hlk := hM9.lt
        clear hM9 r3 r5 r9 hR
        go_roundw
        case rel =>
          refine ⟨k + 1, by go_num, by omega, (hm.later hb9).kp hkp (by omega), (ht.later hb9).kp hkp (by omega), ?_, (HS.out.later hb9).kp hkp ?_, hkp.new (bgo hB hb9) (by omega)⟩
          · rw [← rkF_next he]; exact hM'
          · intro g2 o2 c2 e2 hl2
            have e3 := HG.out g2 o2 c2 e2 hl2
            omega
        case measure => simp [intOf]; omega
    · obtain rfl : k = l.length := by omega
      have c0 : wr.cell? ⟨mb, 0, none⟩ = some (.pointer (some ⟨tb, 0, none⟩)) := hm.cell 0
      have hT : TrL (Rmx tb kb mb q2 q3) tb 32 [] wr := ⟨[], .pointer none, ht, .inl ⟨rfl, rfl⟩, rfl, trivial⟩
      have hlm := hm.lt
      have HI := hid_of' (insert_any hT 0 l _ hs (Nat.le_refl _) (by simp; omega) (.inl (Nat.le_refl _)) (by decide) (by decide) hlm)
      unfold pv at HI
      clear hT ht
      go_wp2_with (go_at_call 19; refine HI.out.mono ?_; rintro r w9 ⟨rfl, hT9, hkp⟩)
      go_ret2
      refine ⟨mb, tb, kb, l.length, Rmx tb kb mb q2 q3, rfl, (fun x hx => .inl (by omega)), rfl, q1, q2, q3, ⟨hm.kp hkp (by omega), ?_, hM.kp hkp (by omega), .inl (Nat.le_refl _), .inr (.inr rfl), Nat.le_trans hlm hkp.size⟩, hkp.new hB q1⟩
      simpa using hT9

/-- Of this many the first ones are right. -/
def FineTo (l : List El) (j : Nat) : Prop := ∀ (i : Nat) (x : El), i < j → l[i]? = some x → wrK (l.take i) x = none
theorem fine_or (l : List El) : FineTo l l.length ∨ ∃ j e kk, l[j]? = some e ∧ wrK (l.take j) e = some kk ∧ FineTo l j := by
  suffices h : ∀ j, j ≤ l.length → FineTo l j ∨ ∃ j e kk, l[j]? = some e ∧ wrK (l.take j) e = some kk ∧ FineTo l j from h _ (Nat.le_refl _)
  intro j
  induction j with
  | zero => intro _; exact .inl fun i x h => absurd h (by omega)
  | succ j ih =>
    intro hj
    rcases ih (by omega) with h | h
    · obtain ⟨e, he⟩ : ∃ e, l[j]? = some e := ⟨_, List.getElem?_eq_getElem (by omega)⟩
      cases hw : wrK (l.take j) e with
      | none =>
        refine .inl fun i x hi hx => ?_
        by_cases q : i < j
        · exact h i x q hx
        · obtain rfl : i = j := by omega
          rw [he] at hx
          cases hx
          exact hw
      | some kk => exact .inr ⟨j, e, kk, he, hw, h⟩
    · exact .inr h
theorem wrK_lt {l : List El} {e : El} {kk : Nat} (h : wrK l e = some kk) : kk < 13 := by
  unfold wrK flK at h
  split at h
  · cases h; decide
  · split at h
    · cases h; decide
    · split at h
      · cases h; decide
      · cases h
theorem wrK_none {l : List El} {e : El} (h : wrK l e = none) : rightC e.ch = true ∧ fairH e.hd = true ∧ hasI l e.id = false := by
  unfold wrK flK at h
  split at h
  · cases h
  · split at h
    · cases h
    · split at h
      · cases h
      · simp_all
theorem FineTo.good {l : List El} {j : Nat} (h : FineTo l j) (hin : ∀ (i : Nat) (e : El), l[i]? = some e → e.id.In) (i : Nat) (e : El) (hi : i < j) (he : l[i]? = some e) : e.Good := ⟨hin i e he, (wrK_none (h i e hi he)).1, (wrK_none (h i e hi he)).2.1⟩
theorem FineTo.apart {l : List El} {j : Nat} (h : FineTo l j) (i m : Nat) (x y : El) (him : i < m) (hm : m < j) (hx : l[i]? = some x) (hy : l[m]? = some y) : x.id ≠ y.id := by
  intro q
  have h1 := (wrK_none (h m y hm hy)).2.2
  have h2 : x ∈ l.take m := List.mem_iff_getElem?.2 ⟨i, by rw [List.getElem?_take, if_pos him]; exact hx⟩
  have h3 : hasI (l.take m) y.id = true := List.any_eq_true.2 ⟨x, h2, by simpa using q⟩
  rw [h1] at h3
  cases h3
theorem rowKeptE {g base : Nat} {cs : Array Value} {ty : TypeId} {v : Value} {l : List El} {w w' : World} (h : RowAt g cs ty w) (h2 : OwnE base v l w) (hne : ty ≠ 49) (hg : w.grownBy w' v.ownBlock) : RowAt g cs ty w' := by
  refine (hg.block _ h.lt ?_).trans h
  intro e9
  rcases h2.2 with ⟨a1, _⟩ | ⟨g9, cap, cur, a1, _, a3, _⟩
  · rw [a1] at e9; simp [Value.ownBlock] at e9
  · rw [a1] at e9
    simp only [Value.ownBlock, Option.some.injEq] at e9
    subst e9
    rw [show w.heap[g]? = _ from h] at a3
    cases a3
    exact hne rfl
theorem ownE_kp2 {x base : Nat} {v : Value} {l : List El} {w w' : World} (h : OwnE base v l w) (k : Kp x w w') (hx : ∀ g n c, v = .slice (some ⟨g, 0, none⟩) n c → ¬ g = x) : OwnE base v l w' := by
  refine ⟨h.1, ?_⟩
  rcases h.2 with h1 | ⟨g, cap, cur, h1, h2, h3, h4⟩
  · exact .inl h1
  · exact .inr ⟨g, cap, cur, h1, h2, (k.block g (Array.getElem?_eq_some_iff.1 h3).1 (hx _ _ _ h1)).trans h3, h4⟩
theorem rowNot {g base : Nat} {cs : Array Value} {ty : TypeId} {v : Value} {l : List El} {w : World} (h : RowAt g cs ty w) (h2 : OwnE base v l w) (hne : ty ≠ 49) : ∀ g' n c, v = .slice (some ⟨g', 0, none⟩) n c → ¬ g' = g := by
  intro g' n c e1 e2
  subst e2
  rcases h2.2 with ⟨a1, _⟩ | ⟨g9, cap, cur, a1, _, a3, _⟩
  · rw [e1] at a1; cases a1
  · rw [e1] at a1
    cases a1
    rw [show w.heap[g']? = _ from h] at a3
    cases a3
    exact hne rfl
theorem results_tNo {fn : Func} {t u : Tmp} {tmps : Array Value} {w : World} {g' : Nat} {cs : Array Value} (h : fn.results = #[.tmp t, .cell u 36]) (hu : tmps.getD u undef = .pointer (some ⟨g', 0, none⟩)) (hg' : RowAt g' cs 36 w) (hs : cs.size = 3) :
    (results fn tmps).run Tryz.prog w = .ok (.tuple #[tmps.getD t undef, .agg cs]) w := by
  have hu' : tmps[u]?.getD undef = .pointer (some ⟨g', 0, none⟩) := by simpa using hu
  have hi : (Tryz.prog.info? 36).map (·.size) = some cs.size := by rw [hs]; exact no_size
  simp [results, h, hu', asAddr, run_loadVar_row w g' _ _ _ _ _ hg' Tryz.underlying36 rfl hi]

end Go.Proofs.YtjalehlmldlooaaGreatDoor
