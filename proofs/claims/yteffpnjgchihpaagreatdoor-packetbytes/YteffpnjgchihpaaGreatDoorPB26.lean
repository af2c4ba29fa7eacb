
/-
  Right: is a message right? What a Writer's calls leave as it was: every block that holds neither bytes nor a Writer.
-/
import Derived.Test.YteffpnjgchihpaaGreatDoorPB25
import Derived.Test.YteffpnjgchihpaaGreatDoorPB15
namespace Go.Proofs.YteffpnjgchihpaaGreatDoor
open Go.RowKit
set_option maxRecDepth 100000

def rightB (m : Pms) : Bool := oneB m.1 4 && wiB m.2.1 7 && decide (0 ≤ m.2.2.1) && usesB m && m.2.2.2.2.1.all actB && rowB mx63 m.2.2.2.1 && m.2.2.2.2.2.all rndB
theorem uses_is {m : Pms} {v : Bool} (h : usesB m = v) (hk : oneB m.1 4 = true) (s : Value) (w : World) (hs : shM m) (hA : SlA w s m.2.2.2.2.1) :
    Calls Tryz.prog 28 #[.agg (mv m s)] w fun e w' => e = .returned (.bool v) ∧ Below w.heap.size w w' := by
  subst h
  obtain ⟨k, f_, e_, c, A, R⟩ := m
  simp only [oneB, Bool.and_eq_true, decide_eq_true_eq] at hk
  have hk4 : k = 1 ∨ k = 2 ∨ k = 3 ∨ k = 4 := by omega
  rcases hk4 with rfl | rfl | rfl | rfl
  · exact uses1_any f_ e_ c A R s w hs hA
  · exact uses2_any f_ e_ c A R s w hs hA
  · exact uses3_any f_ e_ c A R s w hs hA
  · exact uses4_any f_ e_ c A R s w hs hA
/-- A message that an argument can hold. -/
structure fitM (m : Pms) : Prop where
  sh : shM m
  acts : ∀ a ∈ m.2.2.2.2.1, fitA a
  len : m.2.2.2.2.1.length ≤ 1000000

set_option maxHeartbeats 4000000 in
theorem right_any (m : Pms) (s : Value) (w : World) (hm : fitM m) (hA : SlA w s m.2.2.2.2.1) :
    Calls Tryz.prog 8 #[.agg (mv m s)] w fun e w' => e = .returned (.bool (rightB m)) ∧ Below w.heap.size w w' := by
  have hB := below_one w (.cells (mv m s) 31)
  have h1 := RowAt.new w (mv m s) 31
  have hA1 := hA.later hB
  have HV := hid_of' (show rightB m = (oneB m.1 4 && wiB m.2.1 7 && decide (0 ≤ m.2.2.1) && usesB m && m.2.2.2.2.1.all actB && rowB mx63 m.2.2.2.1 && m.2.2.2.2.2.all rndB) from rfl)
  have p0 := h1.in
  have p1 := h1.in.msC
  have p2 := h1.in.msR hm.sh
  have d0 := h1.cls 0 _ (mv_k m s)
  have d1 := h1.cls 1 _ (mv_f m s)
  have d2 := h1.cls 2 _ (mv_e m s)
  have d11 := h1.cls 11 _ (mv_a s hm.sh)
  cases g0 : oneB m.1 4
  · skip
    go_enter Tryz.func8, Tryz.ntmps8
    go_upto_region 1 with fail
    refine wp_region_cls0 ?_
    repeat (first | go_big_quiet_skip | (go_big_quiet_want; first | (refine quiet_ms hm.sh _ rfl rfl p0.cls ?_; simp only [Act.put, List.setIfInBounds_toArray, List.set_cons_succ, List.set_cons_zero]; go_big_quiet_on) | (refine quiet_ck hm.sh.1 _ rfl rfl p1.cls ?_; simp only [Act.put, List.setIfInBounds_toArray, List.set_cons_succ, List.set_cons_zero]; go_big_quiet_on) | (refine quiet_rnds hm.sh.2.2 _ rfl rfl p2.cls ?_; simp only [Act.put, List.setIfInBounds_toArray, List.set_cons_succ, List.set_cons_zero]; go_big_quiet_on) | (go_big_quiet_op; first | go_big_quiet_on | go_big_quiet_call ((first | (go_at_call 26; exact cls_of_same (isOne_is g0 _)) | (go_at_call 27; exact cls_of_same (isWithin_is g1 _)) | (go_at_call 28; exact cls_of (uses_is g3 g0 _ _ hm.sh (hA1.later (wOf_below _)))) | (go_at_call 29; exact cls_of (areRight_is g4 _ _ (hA1.later (wOf_below _)) hm.acts hm.len)) | (go_at_call 30; exact cls_of (isRow_is g5 _ hm.sh.1)) | (go_at_call 31; exact cls_of (areRounds_is g6 _ hm.sh.2.2)))))))
    refine wpQuiet_nil ?_
    rintro w1 ⟨s1, e1⟩
    have hb1 := wOf_below s1
    rw [← e1] at hb1
    clear e1 s1
    replace hB := bgo hB hb1
    clear hb1
    go_wp2
    go_ret
    exact ⟨by rw [HV.out]; simp [g0], hB⟩
  · skip
    cases g1 : wiB m.2.1 7
    · skip
      go_enter Tryz.func8, Tryz.ntmps8
      go_upto_region 1 with fail
      refine wp_region_cls0 ?_
      repeat (first | go_big_quiet_skip | (go_big_quiet_want; first | (refine quiet_ms hm.sh _ rfl rfl p0.cls ?_; simp only [Act.put, List.setIfInBounds_toArray, List.set_cons_succ, List.set_cons_zero]; go_big_quiet_on) | (refine quiet_ck hm.sh.1 _ rfl rfl p1.cls ?_; simp only [Act.put, List.setIfInBounds_toArray, List.set_cons_succ, List.set_cons_zero]; go_big_quiet_on) | (refine quiet_rnds hm.sh.2.2 _ rfl rfl p2.cls ?_; simp only [Act.put, List.setIfInBounds_toArray, List.set_cons_succ, List.set_cons_zero]; go_big_quiet_on) | (go_big_quiet_op; first | go_big_quiet_on | go_big_quiet_call ((first | (go_at_call 26; exact cls_of_same (isOne_is g0 _)) | (go_at_call 27; exact cls_of_same (isWithin_is g1 _)) | (go_at_call 28; exact cls_of (uses_is g3 g0 _ _ hm.sh (hA1.later (wOf_below _)))) | (go_at_call 29; exact cls_of (areRight_is g4 _ _ (hA1.later (wOf_below _)) hm.acts hm.len)) | (go_at_call 30; exact cls_of (isRow_is g5 _ hm.sh.1)) | (go_at_call 31; exact cls_of (areRounds_is g6 _ hm.sh.2.2)))))))
      refine wpQuiet_nil ?_
      rintro w1 ⟨s1, e1⟩
      have hb1 := wOf_below s1
      rw [← e1] at hb1
      clear e1 s1
      replace hB := bgo hB hb1
      clear hb1
      go_wp2
      go_ret
      exact ⟨by rw [HV.out]; simp [g0, g1], hB⟩
    · skip
      cases g2 : decide (0 ≤ m.2.2.1)
      · skip
        go_enter Tryz.func8, Tryz.ntmps8
        go_upto_region 1 with fail
        refine wp_region_cls0 ?_
        repeat (first | go_big_quiet_skip | (go_big_quiet_want; first | (refine quiet_ms hm.sh _ rfl rfl p0.cls ?_; simp only [Act.put, List.setIfInBounds_toArray, List.set_cons_succ, List.set_cons_zero]; go_big_quiet_on) | (refine quiet_ck hm.sh.1 _ rfl rfl p1.cls ?_; simp only [Act.put, List.setIfInBounds_toArray, List.set_cons_succ, List.set_cons_zero]; go_big_quiet_on) | (refine quiet_rnds hm.sh.2.2 _ rfl rfl p2.cls ?_; simp only [Act.put, List.setIfInBounds_toArray, List.set_cons_succ, List.set_cons_zero]; go_big_quiet_on) | (go_big_quiet_op; first | go_big_quiet_on | go_big_quiet_call ((first | (go_at_call 26; exact cls_of_same (isOne_is g0 _)) | (go_at_call 27; exact cls_of_same (isWithin_is g1 _)) | (go_at_call 28; exact cls_of (uses_is g3 g0 _ _ hm.sh (hA1.later (wOf_below _)))) | (go_at_call 29; exact cls_of (areRight_is g4 _ _ (hA1.later (wOf_below _)) hm.acts hm.len)) | (go_at_call 30; exact cls_of (isRow_is g5 _ hm.sh.1)) | (go_at_call 31; exact cls_of (areRounds_is g6 _ hm.sh.2.2)))))))
        refine wpQuiet_nil ?_
        rintro w1 ⟨s1, e1⟩
        have hb1 := wOf_below s1
        rw [← e1] at hb1
        clear e1 s1
        replace hB := bgo hB hb1
        clear hb1
        go_wp2
        go_ret
        exact ⟨by rw [HV.out]; simp [g0, g1, g2], hB⟩
      · skip
        cases g3 : usesB m
        · skip
          go_enter Tryz.func8, Tryz.ntmps8
          go_upto_region 1 with fail
          refine wp_region_cls0 ?_
          repeat (first | go_big_quiet_skip | (go_big_quiet_want; first | (refine quiet_ms hm.sh _ rfl rfl p0.cls ?_; simp only [Act.put, List.setIfInBounds_toArray, List.set_cons_succ, List.set_cons_zero]; go_big_quiet_on) | (refine quiet_ck hm.sh.1 _ rfl rfl p1.cls ?_; simp only [Act.put, List.setIfInBounds_toArray, List.set_cons_succ, List.set_cons_zero]; go_big_quiet_on) | (refine quiet_rnds hm.sh.2.2 _ rfl rfl p2.cls ?_; simp only [Act.put, List.setIfInBounds_toArray, List.set_cons_succ, List.set_cons_zero]; go_big_quiet_on) | (go_big_quiet_op; first | go_big_quiet_on | go_big_quiet_call ((first | (go_at_call 26; exact cls_of_same (isOne_is g0 _)) | (go_at_call 27; exact cls_of_same (isWithin_is g1 _)) | (go_at_call 28; exact cls_of (uses_is g3 g0 _ _ hm.sh (hA1.later (wOf_below _)))) | (go_at_call 29; exact cls_of (areRight_is g4 _ _ (hA1.later (wOf_below _)) hm.acts hm.len)) | (go_at_call 30; exact cls_of (isRow_is g5 _ hm.sh.1)) | (go_at_call 31; exact cls_of (areRounds_is g6 _ hm.sh.2.2)))))))
          refine wpQuiet_nil ?_
          rintro w1 ⟨s1, e1⟩
          have hb1 := wOf_below s1
          rw [← e1] at hb1
          clear e1 s1
          replace hB := bgo hB hb1
          clear hb1
          go_wp2
          go_ret
          exact ⟨by rw [HV.out]; simp [g0, g1, g2, g3], hB⟩
        · skip
          cases g4 : m.2.2.2.2.1.all actB
          · skip
            go_enter Tryz.func8, Tryz.ntmps8
            go_upto_region 1 with fail
            refine wp_region_cls0 ?_
            repeat (first | go_big_quiet_skip | (go_big_quiet_want; first | (refine quiet_ms hm.sh _ rfl rfl p0.cls ?_; simp only [Act.put, List.setIfInBounds_toArray, List.set_cons_succ, List.set_cons_zero]; go_big_quiet_on) | (refine quiet_ck hm.sh.1 _ rfl rfl p1.cls ?_; simp only [Act.put, List.setIfInBounds_toArray, List.set_cons_succ, List.set_cons_zero]; go_big_quiet_on) | (refine quiet_rnds hm.sh.2.2 _ rfl rfl p2.cls ?_; simp only [Act.put, List.setIfInBounds_toArray, List.set_cons_succ, List.set_cons_zero]; go_big_quiet_on) | (go_big_quiet_op; first | go_big_quiet_on | go_big_quiet_call ((first | (go_at_call 26; exact cls_of_same (isOne_is g0 _)) | (go_at_call 27; exact cls_of_same (isWithin_is g1 _)) | (go_at_call 28; exact cls_of (uses_is g3 g0 _ _ hm.sh (hA1.later (wOf_below _)))) | (go_at_call 29; exact cls_of (areRight_is g4 _ _ (hA1.later (wOf_below _)) hm.acts hm.len)) | (go_at_call 30; exact cls_of (isRow_is g5 _ hm.sh.1)) | (go_at_call 31; exact cls_of (areRounds_is g6 _ hm.sh.2.2)))))))
            refine wpQuiet_nil ?_
            rintro w1 ⟨s1, e1⟩
            have hb1 := wOf_below s1
            rw [← e1] at hb1
            clear e1 s1
            replace hB := bgo hB hb1
            clear hb1
            go_wp2
            go_ret
            exact ⟨by rw [HV.out]; simp [g0, g1, g2, g3, g4], hB⟩
          · skip
            cases g5 : rowB mx63 m.2.2.2.1
            · skip
              go_enter Tryz.func8, Tryz.ntmps8
              go_upto_region 1 with fail
              refine wp_region_cls0 ?_
              repeat (first | go_big_quiet_skip | (go_big_quiet_want; first | (refine quiet_ms hm.sh _ rfl rfl p0.cls ?_; simp only [Act.put, List.setIfInBounds_toArray, List.set_cons_succ, List.set_cons_zero]; go_big_quiet_on) | (refine quiet_ck hm.sh.1 _ rfl rfl p1.cls ?_; simp only [Act.put, List.setIfInBounds_toArray, List.set_cons_succ, List.set_cons_zero]; go_big_quiet_on) | (refine quiet_rnds hm.sh.2.2 _ rfl rfl p2.cls ?_; simp only [Act.put, List.setIfInBounds_toArray, List.set_cons_succ, List.set_cons_zero]; go_big_quiet_on) | (go_big_quiet_op; first | go_big_quiet_on | go_big_quiet_call ((first | (go_at_call 26; exact cls_of_same (isOne_is g0 _)) | (go_at_call 27; exact cls_of_same (isWithin_is g1 _)) | (go_at_call 28; exact cls_of (uses_is g3 g0 _ _ hm.sh (hA1.later (wOf_below _)))) | (go_at_call 29; exact cls_of (areRight_is g4 _ _ (hA1.later (wOf_below _)) hm.acts hm.len)) | (go_at_call 30; exact cls_of (isRow_is g5 _ hm.sh.1)) | (go_at_call 31; exact cls_of (areRounds_is g6 _ hm.sh.2.2)))))))
              refine wpQuiet_nil ?_
              rintro w1 ⟨s1, e1⟩
              have hb1 := wOf_below s1
              rw [← e1] at hb1
              clear e1 s1
              replace hB := bgo hB hb1
              clear hb1
              go_wp2
              go_ret
              exact ⟨by rw [HV.out]; simp [g0, g1, g2, g3, g4, g5], hB⟩
            · skip
              cases g6 : m.2.2.2.2.2.all rndB
              · skip
                go_enter Tryz.func8, Tryz.ntmps8
                go_upto_region 1 with fail
                refine wp_region_cls0 ?_
                repeat (first | go_big_quiet_skip | (go_big_quiet_want; first | (refine quiet_ms hm.sh _ rfl rfl p0.cls ?_; simp only [Act.put, List.setIfInBounds_toArray, List.set_cons_succ, List.set_cons_zero]; go_big_quiet_on) | (refine quiet_ck hm.sh.1 _ rfl rfl p1.cls ?_; simp only [Act.put, List.setIfInBounds_toArray, List.set_cons_succ, List.set_cons_zero]; go_big_quiet_on) | (refine quiet_rnds hm.sh.2.2 _ rfl rfl p2.cls ?_; simp only [Act.put, List.setIfInBounds_toArray, List.set_cons_succ, List.set_cons_zero]; go_big_quiet_on) | (go_big_quiet_op; first | go_big_quiet_on | go_big_quiet_call ((first | (go_at_call 26; exact cls_of_same (isOne_is g0 _)) | (go_at_call 27; exact cls_of_same (isWithin_is g1 _)) | (go_at_call 28; exact cls_of (uses_is g3 g0 _ _ hm.sh (hA1.later (wOf_below _)))) | (go_at_call 29; exact cls_of (areRight_is g4 _ _ (hA1.later (wOf_below _)) hm.acts hm.len)) | (go_at_call 30; exact cls_of (isRow_is g5 _ hm.sh.1)) | (go_at_call 31; exact cls_of (areRounds_is g6 _ hm.sh.2.2)))))))
                refine wpQuiet_nil ?_
                rintro w1 ⟨s1, e1⟩
                have hb1 := wOf_below s1
                rw [← e1] at hb1
                clear e1 s1
                replace hB := bgo hB hb1
                clear hb1
                go_wp2
                go_ret
                exact ⟨by rw [HV.out]; simp [g0, g1, g2, g3, g4, g5, g6], hB⟩
              · skip
                go_enter Tryz.func8, Tryz.ntmps8
                go_upto_region 1 with fail
                refine wp_region_cls0 ?_
                repeat (first | go_big_quiet_skip | (go_big_quiet_want; first | (refine quiet_ms hm.sh _ rfl rfl p0.cls ?_; simp only [Act.put, List.setIfInBounds_toArray, List.set_cons_succ, List.set_cons_zero]; go_big_quiet_on) | (refine quiet_ck hm.sh.1 _ rfl rfl p1.cls ?_; simp only [Act.put, List.setIfInBounds_toArray, List.set_cons_succ, List.set_cons_zero]; go_big_quiet_on) | (refine quiet_rnds hm.sh.2.2 _ rfl rfl p2.cls ?_; simp only [Act.put, List.setIfInBounds_toArray, List.set_cons_succ, List.set_cons_zero]; go_big_quiet_on) | (go_big_quiet_op; first | go_big_quiet_on | go_big_quiet_call ((first | (go_at_call 26; exact cls_of_same (isOne_is g0 _)) | (go_at_call 27; exact cls_of_same (isWithin_is g1 _)) | (go_at_call 28; exact cls_of (uses_is g3 g0 _ _ hm.sh (hA1.later (wOf_below _)))) | (go_at_call 29; exact cls_of (areRight_is g4 _ _ (hA1.later (wOf_below _)) hm.acts hm.len)) | (go_at_call 30; exact cls_of (isRow_is g5 _ hm.sh.1)) | (go_at_call 31; exact cls_of (areRounds_is g6 _ hm.sh.2.2)))))))
                refine wpQuiet_nil ?_
                rintro w1 ⟨s1, e1⟩
                have hb1 := wOf_below s1
                rw [← e1] at hb1
                clear e1 s1
                replace hB := bgo hB hb1
                clear hb1
                go_wp2
                go_ret
                exact ⟨by rw [HV.out]; simp [g0, g1, g2, g3, g4, g5, g6], hB⟩
theorem right_is {m : Pms} {v : Bool} (h : rightB m = v) (s : Value) (w : World) (hm : fitM m) (hA : SlA w s m.2.2.2.2.1) :
    Calls Tryz.prog 8 #[.agg (mv m s)] w fun e w' => e = .returned (.bool v) ∧ Below w.heap.size w w' := h ▸ right_any m s w hm hA
end Go.Proofs.YteffpnjgchihpaaGreatDoor
namespace Go.Proofs.YteffpnjgchihpaaGreatDoor
open Go.RowKit
set_option maxRecDepth 100000

/-- Every block of w that holds neither bytes nor a Writer lies in w' as it lay. -/
def FrT (w w' : World) : Prop := ∀ (k : Nat) (cs : Array Value) (t : TypeId) (m : Nat × Nat), w.heap[k]? = some (Obj.cells cs t m) → t ≠ 5 → t ≠ 89 → w'.heap[k]? = some (Obj.cells cs t m)

theorem FrT.refl (w : World) : FrT w w := fun _ _ _ _ h _ _ => h
theorem FrT.trans {w w1 w2 : World} (h : FrT w w1) (g : FrT w1 w2) : FrT w w2 := fun k cs t m hk h1 h2 => g k cs t m (h k cs t m hk h1 h2) h1 h2
theorem FrT.below {w w' : World} (h : Below w.heap.size w w') : FrT w w' := fun k cs t m hk _ _ => by rw [h.block k (lt_of_heap hk)]; exact hk
theorem FrT.alloc {w w1 : World} (h : FrT w w1) (o : Obj) : FrT w (w1.alloc o) := fun k cs t m hk h1 h2 => by
  have := h k cs t m hk h1 h2
  rw [Below.heap_alloc _ _ _ (lt_of_heap this)]; exact this
theorem FrT.grown {w w1 w2 : World} {B n : Nat} {v : Value} {xs : List Value} (h : FrT w w1) (hg : w1.grownBy w2 v.ownBlock) (ho : w1.ownsRow B 5 1 v n xs) : FrT w w2 := fun k cs t m hk h1 h2 => by
  have hk1 := h k cs t m hk h1 h2
  rw [hg.block k (lt_of_heap hk1) (fun e => ?_)]
  · exact hk1
  · rcases ho.2 with ⟨rfl, _⟩ | ⟨g, cap, cur, rfl, _, hg', _⟩
    · simp [Value.ownBlock] at e
    · simp only [Value.ownBlock, Option.some.injEq] at e
      subst e
      rw [hg'] at hk1
      simp only [Option.some.injEq, Obj.cells.injEq] at hk1
      exact h1 hk1.2.1.symm
theorem FrT.set {w w1 : World} {b : Nat} {z : Array Value} (h : FrT w w1) (hb : w1.heap[b]? = some (.cells z 89 (0, 0))) (x : Value) : FrT w (w1.setCell ⟨b, 0, none⟩ x) := fun k cs t m hk h1 h2 => by
  have hk1 := h k cs t m hk h1 h2
  have hne : k ≠ b := fun e => by
    subst e
    rw [hb] at hk1
    simp only [Option.some.injEq, Obj.cells.injEq] at hk1
    exact h2 hk1.2.1.symm
  rw [Below.heap_setCell _ _ _ _ hne]; exact hk1

set_option maxHeartbeats 1000000 in
theorem byte_fr {B b : Nat} {bs : List UInt8} {v : Value} {w : World} (h : WrAt B b bs v w) (c : UInt8) (hlen : bs.length + 1 ≤ 140737488355328) (hBw : B ≤ w.heap.size) :
    Calls Tryz.prog 45 #[.pointer (some ⟨b, 0, none⟩), .int .u8 c.toNat] w fun e w' => e = .returned (.tuple #[]) ∧ (∃ v', WrAt B b (bs ++ [c]) v' w') ∧ Below B w w' ∧ FrT w w' := by
  obtain ⟨i0, hi, hz0, hz1, hz2⟩ := info_parts info_u8
  have c0 : w.cell? ⟨b, 0, none⟩ = some v := by rw [cellW_of h.lies]; rfl
  have HH : Aside (WrAt B b bs v w ∧ bs.length + 1 ≤ 140737488355328 ∧ B ≤ w.heap.size) := ⟨h, hlen, hBw⟩
  have hown := h.own
  clear h hlen hBw
  go_enter Tryz.func45, Tryz.ntmps45
  go_wp2_with (at_builtin; refine wpList_append_own _ rfl _ _ 33 rfl B 5 i0 (.int .u8 0) 1 1 Tryz.underlying33 hi hz0 hz1 hz2 rfl (by decide) _ _ _ rfl (hown.alloc _) ⟨w.heap.size, 0, none⟩ 1 1 [.int .u8 c.toNat] rfl rfl ?c1 ?c2 ?c3 ?c4 ?c5 ?_)
  case c1 => exact cell_one_new _ _ _
  case c2 => intro u hu; simp at hu; subst hu; rfl
  case c3 => have := HH.out.2.1; unfold maxLen; omega
  case c4 => have := HH.out.2.1; omega
  case c5 => have := HH.out.2.2; simp; omega
  intro v0 w2 hown0 hgrow hnn
  clear hnn
  have hW : WrAt B b bs v (w.alloc (.cells #[.int .u8 c.toNat] 5)) := HH.out.1.keep (S := []) ((Kept.refl _ w).alloc _) (by simp)
  obtain ⟨hput, hb2⟩ := hW.put (bs' := bs ++ [c]) (v' := v0) hgrow (by simpa [Lib.byteCells] using hown0)
  have d1 : w2.cell? ⟨b, 0, none⟩ = some v := by rw [cellW_of hb2]; rfl
  have f1 : w2.frozen? ⟨b, 0, none⟩ = false := frozenW_of hb2 0
  have HF : Aside (WrAt B b (bs ++ [c]) v0 (w2.setCell ⟨b, 0, none⟩ v0) ∧ Below B w (w2.setCell ⟨b, 0, none⟩ v0) ∧ FrT w (w2.setCell ⟨b, 0, none⟩ v0)) := ⟨hput, ((((Below.refl B w).alloc HH.out.2.2 _).grown hgrow (by have := HH.out.2.2; simp; omega) (fun k hk => (HH.out.1.own.lt k hk).1)).setCell (p := ⟨b, 0, none⟩) HH.out.1.lo _), ((((FrT.refl w).alloc _).grown hgrow hW.own).set hb2 _)⟩
  obtain ⟨va, vn, vc, hv'⟩ : ∃ a k c, v0 = .slice a k c := by
    rcases hown0.2 with ⟨hv, _⟩ | ⟨g, cap, cur, hv, _⟩
    · exact ⟨_, _, _, hv⟩
    · exact ⟨_, _, _, hv⟩
  rw [hv'] at HF ⊢
  clear hv' hput hb2 hW hown0 hgrow hown
  go_wp2
  go_end0
  exact ⟨rfl, ⟨_, HF.out.1⟩, HF.out.2⟩

theorem byte_intF {B b : Nat} {bs : List UInt8} {v : Value} {w : World} (h : WrAt B b bs v w) (x : Int) (c : UInt8) (hx : x = (c.toNat : Int)) (hlen : bs.length + 1 ≤ 140737488355328) (hBw : B ≤ w.heap.size) :
    Calls Tryz.prog 45 #[.pointer (some ⟨b, 0, none⟩), .int .u8 x] w fun e w' => e = .returned (.tuple #[]) ∧ (∃ v', WrAt B b (bs ++ [c]) v' w') ∧ Below B w w' ∧ FrT w w' := by
  subst hx; exact byte_fr h c hlen hBw

set_option maxHeartbeats 1000000 in
theorem wdigits_fr {B b : Nat} {bs : List UInt8} {v : Value} {w : World} (h : WrAt B b bs v w) (n : Nat) (hn : n < 9223372036854775808) (hlen : bs.length + 9 ≤ 140737488355328) (hBw : B ≤ w.heap.size) :
    Calls Tryz.prog 60 #[.pointer (some ⟨b, 0, none⟩), .int .i64 n] w fun e w' => e = .returned (.tuple #[]) ∧ (∃ v', WrAt B b (bs ++ formN n) v' w') ∧ Below B w w' ∧ FrT w w' := by
  have HL : Aside (bs.length + 9 ≤ 140737488355328 ∧ B ≤ w.heap.size ∧ n < 9223372036854775808) := ⟨hlen, hBw, hn⟩
  have HH : Aside (WrAt B b bs v w) := h
  clear h hlen hBw hn
  go_enter Tryz.func60, Tryz.ntmps60
  go_wp2_with fail
  go_loopg [1] n (fun k nv wr => ∃ (m : Nat) (pre : List UInt8) (v' : Value), k = m ∧ nv = .int .i64 (m : Int) ∧ WrAt B b (bs ++ pre) v' wr ∧ Aside (pre ++ formN m = formN n ∧ m < 9223372036854775808) ∧ Below B w wr ∧ FrT w wr)
  case atStart => exact ⟨n, [], v, rfl, rfl, by simpa using HH.out, ⟨by simp, HL.out.2.2⟩, Below.refl _ _, FrT.refl _⟩
  case round =>
    obtain ⟨m, pre, v', hgk, rfl, hW, hA, hb, hfr⟩ := hrel
    have HW : Aside (WrAt B b (bs ++ pre) v' wr) := hW
    have HB : Aside (Below B w wr ∧ FrT w wr) := ⟨hb, hfr⟩
    clear hW hb hfr
    have hpl : pre.length + 1 ≤ 9 := by
      have h1 := congrArg List.length hA.out.1
      have h2 := form_len9 n HL.out.2.2
      have h3 : 1 ≤ (formN m).length := by rw [formN]; split <;> simp
      rw [List.length_append] at h1
      omega
    by_cases hm : m < 128
    · have hm' : ¬ (128 : Int) ≤ (m : Int) := by omega
      have hw8 : IntKind.u8.wrap (m : Int) = (m : Int) := by rw [IntKind.wrap_u8']; omega
      go_wp2_with (go_at_call 45; refine (byte_intF HW.out _ (UInt8.ofNat m) (ofN_small m hm) (by have := HL.out.1; rw [List.length_append]; omega) (by have := HB.out.1.size; have := HL.out.2.1; omega)).mono ?_; rintro e w2 ⟨rfl, ⟨v2, hW2⟩, hb2, hf2⟩)
      go_end0
      refine ⟨rfl, ⟨v2, ?_⟩, HB.out.1.trans hb2, HB.out.2.trans hf2⟩
      rw [← hA.out.1, form_small hm, ← List.append_assoc]
      exact hW2
    · have hm' : (128 : Int) ≤ (m : Int) := by omega
      have hw := wrap_div m hA.out.2
      go_wp2_with (go_at_call 45; refine (byte_intF HW.out _ (UInt8.ofNat (m % 128 + 128)) (ofN_big m) (by have := HL.out.1; rw [List.length_append]; omega) (by have := HB.out.1.size; have := HL.out.2.1; omega)).mono ?_; rintro e w2 ⟨rfl, ⟨v2, hW2⟩, hb2, hf2⟩)
      go_roundg (m / 128)
      case measure => rw [hgk]; exact Nat.div_lt_self (by omega) (by decide)
      case rel =>
        refine ⟨m / 128, pre ++ [UInt8.ofNat (m % 128 + 128)], v2, rfl, congrArg (Value.int .i64 ·) hw, by rw [← List.append_assoc]; exact hW2, ⟨?_, by have := hA.out.2; omega⟩, HB.out.1.trans hb2, HB.out.2.trans hf2⟩
        rw [← hA.out.1, form_big hm, List.append_assoc]; rfl

theorem wnumber_fr {B b : Nat} {bs : List UInt8} {v : Value} {w : World} (h : WrAt B b bs v w) (n : Nat) (hn : n < 9223372036854775808) (hlen : bs.length + 9 ≤ 140737488355328) (hBw : B ≤ w.heap.size) :
    Calls Tryz.prog 46 #[.pointer (some ⟨b, 0, none⟩), .int .i64 n] w fun e w' => e = .returned .nilIface ∧ (∃ v', WrAt B b (bs ++ formN n) v' w') ∧ Below B w w' ∧ FrT w w' := by
  have HH : Aside (WrAt B b bs v w ∧ n < 9223372036854775808 ∧ bs.length + 9 ≤ 140737488355328 ∧ B ≤ w.heap.size) := ⟨h, hn, hlen, hBw⟩
  have hnn : ¬ (n : Int) < 0 := by omega
  clear h hn hlen hBw
  go_enter Tryz.func46, Tryz.ntmps46
  go_wp2_with (go_at_call 60; refine (wdigits_fr HH.out.1 n HH.out.2.1 HH.out.2.2.1 HH.out.2.2.2).mono ?_; rintro e w2 ⟨rfl, hW2, hb2⟩)
  go_ret
  exact ⟨rfl, hW2, hb2⟩

end Go.Proofs.YteffpnjgchihpaaGreatDoor
