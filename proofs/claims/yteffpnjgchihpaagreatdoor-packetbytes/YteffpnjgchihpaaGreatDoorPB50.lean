
/-
  barrowkeep.Refused: an error that is a Fault (of a Fault, ..) of one reason, held against the document's refusal. What both sides answer to Bytes of a message, right or not. Rows of messages; the loads of the law.
-/
import Derived.Test.YteffpnjgchihpaaGreatDoorPB07
import Derived.Test.YteffpnjgchihpaaGreatDoorPB45
import Derived.Test.YteffpnjgchihpaaGreatDoorPB31
import Derived.Test.YteffpnjgchihpaaGreatDoorPB46
import Derived.Test.YteffpnjgchihpaaGreatDoorPB49
namespace Go.Proofs.YteffpnjgchihpaaGreatDoor
open Go.RowKit Go.Extern.Stop Go.Stop Go.Extern
set_option maxRecDepth 100000

/-- No error, and no refusal. -/
theorem refused_none (a a' : Option Addr) (n c n' c' : Nat) (w : World) :
    Calls Tryz.prog 10 #[.nilIface, .agg (nov 0 a n c a' n' c')] w fun e w' => e = .returned (.bool true) ∧ Below w.heap.size w w' := by
  unfold nov
  go_enter Tryz.func10, Tryz.ntmps10
  go_wp2
  go_ret
  exact ⟨rfl, below_one _ _⟩
/-- What fault.Code, Chain and Codes tell of an error, from a world on. -/
def Tells (b : Nat) (k : Nat) (ls : List Lnk) (w : World) : Prop :=
  (∀ x, Below w.heap.size w x → Calls Tryz.prog 35 #[.iface 85 (.pointer (some ⟨b, 0, none⟩))] x fun e w' => e = .returned (.int .i64 ((k : Int) + 1)) ∧ Below x.heap.size x w') ∧
  (∀ x, Below w.heap.size w x → Calls Tryz.prog 37 #[.iface 85 (.pointer (some ⟨b, 0, none⟩))] x fun e w' => ∃ r, e = .returned r ∧ SlAt w' r 3 ls.length (lcells ls) ∧ Below x.heap.size x w') ∧
  (∀ x, Below w.heap.size w x → Calls Tryz.prog 39 #[.iface 85 (.pointer (some ⟨b, 0, none⟩))] x fun e w' => ∃ r, e = .returned r ∧ SlAt w' r 1 1 (ints [(k : Int) + 1]) ∧ Below x.heap.size x w')
theorem tells_of {ad : Nat → Addr} {e : ErrT} {b k : Nat} {w : World} (L : Laid ad w) (hp : Plain e) (hS : ∀ x, Below w.heap.size w x → Spine ad x.heap.size x e) (hv : val ad e = .iface 85 (.pointer (some ⟨b, 0, none⟩))) (hne : e ≠ .none) (hc : cds e = [(k : Int) + 1]) (hd : deep e ≤ 100000) : Tells b k (chn e) w := by
  have hth : ∀ x, Below w.heap.size w x → Through ad e x := fun x hb => through_plain (L.below hb) e hp (hS x hb)
  refine ⟨fun x hb => ?_, fun x hb => ?_, fun x hb => ?_⟩
  · have := code_any (ad := ad) (w := x) e hne (hth x hb)
    rw [codeOf_ne hne, hc, hv] at this
    exact this
  · have := chain_plain (L.below hb) e hp (hS x hb) hd
    rw [hv] at this
    exact this.mono fun _ _ ⟨r, h1, h2, h3⟩ => ⟨r, h1, SlAt.of_owns h2, h3⟩
  · have hq : ThroughV (val ad e) (fst e) (cds e) x := hth x hb
    have := codes_any hq
    rw [hc, hv] at this
    exact this.mono fun _ _ ⟨r, h1, h2, h3⟩ => ⟨r, h1, SlAt.of_owns h2, h3⟩
set_option maxHeartbeats 2000000 in
theorem refused_err {b k : Nat} {ls : List Lnk} {w : World} (hF : Tells b k ls w) (hn : ls.length ≤ 1000000) {a a' : Option Addr} {c c' : Nat} (h1 : SlAt w (.slice a ls.length c) 3 ls.length (lcells ls)) (h2 : SlAt w (.slice a' 1 c') 1 1 (ints [(k : Int) + 1])) :
    Calls Tryz.prog 10 #[.iface 85 (.pointer (some ⟨b, 0, none⟩)), .agg (nov ((k : Int) + 1) a ls.length c a' 1 c')] w fun e w' => e = .returned (.bool true) ∧ Below w.heap.size w w' := by
  have HF := hid_of' hF
  have HS := hid_of' (And.intro True.intro (And.intro h1 h2))
  clear hF h1 h2
  have hnz : (((k : Int) + 1) == 0) = false := by rw [beq_eq_false_iff_ne]; omega
  have hse : (((k : Int) + 1) == ((k : Int) + 1)) = true := by simp
  have hN : RowAt w.heap.size (nov ((k : Int) + 1) a ls.length c a' 1 c') 37 (w.alloc (.cells (nov ((k : Int) + 1) a ls.length c a' 1 c') 37)) := RowAt.new w _ _
  have n0 : (nov ((k : Int) + 1) a ls.length c a' 1 c')[0]? = some (.int .i64 ((k : Int) + 1)) := rfl
  have hB := below_one w (.cells (nov ((k : Int) + 1) a ls.length c a' 1 c') 37)
  go_enter Tryz.func10, Tryz.ntmps10
  go_upto_region 3 with fail
  have c0 := hN.cls 0 _ n0
  refine wp_region_cls (by kernel_rfl) (by kernel_rfl) ?_
  repeat (first | go_big_quiet_skip | (go_big_quiet_want; first | (go_big_quiet_op; first | go_big_quiet_on | go_big_quiet_call ((go_at_call 35; exact cls_of (HF.out.1 _ (bgo hB (wOf_below _))))))))
  refine wpQuiet_nil ?_
  rintro w1 ⟨s1, e1⟩
  have hb1 := wOf_below s1
  rw [← e1] at hb1
  clear e1 s1
  replace hN := hN.later hb1
  replace hB := bgo hB hb1
  clear hb1
  clear c0 n0
  go_upto_region 5 with fail
  refine wp_region_tail 13 (by kernel_rfl) (fun j => if j = 5 then some true else none) (by kernel_rfl) (by kernel_rfl) (by decide) (fun i v x => match i with
    | 0 => v = .iface 85 (.pointer (some ⟨b, 0, none⟩))
    | 1 => SlAt x v 3 ls.length (lcells ls)
    | 2 => v = .pointer (some ⟨w.heap.size, 1, none⟩)
    | 3 => v = .slice a ls.length c
    | 6 => v = .iface 85 (.pointer (some ⟨b, 0, none⟩))
    | 7 => SlAt x v 1 1 (ints [(k : Int) + 1])
    | 8 => v = .pointer (some ⟨w.heap.size, 2, none⟩)
    | 9 => v = .slice a' 1 c'
    | _ => v = .bool true) (fun _ => false) ?_ ?_ ?_ ?_
  · intro j v x b hj hR
    by_cases e : j = 5
    · subst e; simp at hj; subst hj; exact hR
    · simp [e] at hj
  · intro i v x x' hR hb
    match i, hR with
    | 0, h | 2, h | 3, h | 4, h | 5, h | 6, h | 8, h | 9, h => exact h
    | 1, h => exact SlAt.below h hb
    | 7, h => exact SlAt.below h hb
    | n + 10, h => exact h
  · intro i o hi ho q x vals hX hdep hoth
    have t0 : q.tmps[0]? = some (.iface 85 (.pointer (some ⟨b, 0, none⟩))) := by rw [hoth 0 (by kernel_rfl)]; rfl
    have t3 : q.tmps[3]? = some (.pointer (some ⟨w.heap.size, 0, none⟩)) := by rw [hoth 3 (by kernel_rfl)]; rfl
    match i, hi, ho with
    | 0, _, ho =>
      simp only [List.getElem?_cons_zero, Option.some.injEq] at ho
      subst ho
      unfold Oper.wp
      simp [execOp, go_sem, t0]
      exact came _ rfl (Below.refl _ _) rfl (fun h => absurd h (by decide))
    | 1, _, ho =>
      simp only [List.getElem?_cons_succ, List.getElem?_cons_zero, Option.some.injEq] at ho
      subst ho
      obtain ⟨u0, e0⟩ := hdep ⟨0, .data⟩ (by simp) rfl _ 19 rfl rfl
      rw [show vals 0 = .iface 85 (.pointer (some ⟨b, 0, none⟩)) from e0] at u0
      unfold Oper.wp
      simp [go_sem, u0]
      refine (HF.out.2.1 _ (bgo hB hX)).mono ?_
      rintro e x1 ⟨r, rfl, h1, hb1⟩
      exact came _ rfl hb1 h1 (fun h => absurd h (by decide))
    | 2, _, ho =>
      simp only [List.getElem?_cons_succ, List.getElem?_cons_zero, Option.some.injEq] at ho
      subst ho
      unfold Oper.wp
      simp [execOp, go_sem, t3]
      exact came _ rfl (Below.refl _ _) rfl (fun h => absurd h (by decide))
    | 3, _, ho =>
      simp only [List.getElem?_cons_succ, List.getElem?_cons_zero, Option.some.injEq] at ho
      subst ho
      obtain ⟨u0, e0⟩ := hdep ⟨2, .data⟩ (by simp) rfl _ 21 rfl rfl
      rw [show vals 2 = .pointer (some ⟨w.heap.size, 1, none⟩) from e0] at u0
      have cc := (hN.later hX).cell 1
      unfold Oper.wp
      simp [execOp, go_sem, u0, cc, nov]
      exact came _ rfl (Below.refl _ _) rfl (fun h => absurd h (by decide))
    | 4, _, ho =>
      simp only [List.getElem?_cons_succ, List.getElem?_cons_zero, Option.some.injEq] at ho
      subst ho
      obtain ⟨u0, e0⟩ := hdep ⟨1, .data⟩ (by simp) rfl _ 20 rfl rfl
      obtain ⟨u1, e1⟩ := hdep ⟨3, .data⟩ (by simp) rfl _ 22 rfl rfl
      rw [show vals 3 = .slice a ls.length c from e1] at u1
      have e0' : SlAt x (vals 1) 3 ls.length (lcells ls) := e0
      have hs : SlAt x (.slice a ls.length c) 3 ls.length (lcells ls) := HS.out.2.1.below (bgo hB hX)
      unfold Oper.wp
      simp [go_sem, u0, u1]
      refine (links_eq (xs := ls) e0' hs hn).mono ?_
      rintro e x1 ⟨rfl, hb1⟩
      exact came _ rfl hb1 rfl (fun h => absurd h (by decide))
    | 5, _, ho =>
      simp only [List.getElem?_cons_succ, List.getElem?_cons_zero, Option.some.injEq] at ho
      subst ho
      obtain ⟨u0, e0⟩ := hdep ⟨4, .data⟩ (by simp) rfl _ 23 rfl rfl
      rw [show vals 4 = .bool true from e0] at u0
      unfold Oper.wp
      simp [execOp, go_sem, u0]
      exact came _ rfl (Below.refl _ _) rfl (fun h => absurd h (by decide))
    | 6, _, ho =>
      simp only [List.getElem?_cons_succ, List.getElem?_cons_zero, Option.some.injEq] at ho
      subst ho
      unfold Oper.wp
      simp [execOp, go_sem, t0]
      exact came _ rfl (Below.refl _ _) rfl (fun h => absurd h (by decide))
    | 7, _, ho =>
      simp only [List.getElem?_cons_succ, List.getElem?_cons_zero, Option.some.injEq] at ho
      subst ho
      obtain ⟨u0, e0⟩ := hdep ⟨6, .data⟩ (by simp) rfl _ 25 rfl rfl
      rw [show vals 6 = .iface 85 (.pointer (some ⟨b, 0, none⟩)) from e0] at u0
      unfold Oper.wp
      simp [go_sem, u0]
      refine (HF.out.2.2 _ (bgo hB hX)).mono ?_
      rintro e x1 ⟨r, rfl, h1, hb1⟩
      exact came _ rfl hb1 h1 (fun h => absurd h (by decide))
    | 8, _, ho =>
      simp only [List.getElem?_cons_succ, List.getElem?_cons_zero, Option.some.injEq] at ho
      subst ho
      unfold Oper.wp
      simp [execOp, go_sem, t3]
      exact came _ rfl (Below.refl _ _) rfl (fun h => absurd h (by decide))
    | 9, _, ho =>
      simp only [List.getElem?_cons_succ, List.getElem?_cons_zero, Option.some.injEq] at ho
      subst ho
      obtain ⟨u0, e0⟩ := hdep ⟨8, .data⟩ (by simp) rfl _ 27 rfl rfl
      rw [show vals 8 = .pointer (some ⟨w.heap.size, 2, none⟩) from e0] at u0
      have cc := (hN.later hX).cell 2
      unfold Oper.wp
      simp [execOp, go_sem, u0, cc, nov]
      exact came _ rfl (Below.refl _ _) rfl (fun h => absurd h (by decide))
    | 10, _, ho =>
      simp only [List.getElem?_cons_succ, List.getElem?_cons_zero, Option.some.injEq] at ho
      subst ho
      obtain ⟨u0, e0⟩ := hdep ⟨7, .data⟩ (by simp) rfl _ 26 rfl rfl
      obtain ⟨u1, e1⟩ := hdep ⟨9, .data⟩ (by simp) rfl _ 28 rfl rfl
      rw [show vals 9 = .slice a' 1 c' from e1] at u1
      have e0' : SlAt x (vals 7) 1 1 (ints [(k : Int) + 1]) := e0
      have hs : SlAt x (.slice a' 1 c') 1 1 (ints [(k : Int) + 1]) := HS.out.2.2.below (bgo hB hX)
      unfold Oper.wp
      simp [go_sem, u0, u1]
      refine (ints_eq (xs := [(k : Int) + 1]) e0' hs (by simp)).mono ?_
      rintro e x1 ⟨rfl, hb1⟩
      exact came _ rfl hb1 rfl (fun h => absurd h (by decide))
    | 11, _, ho =>
      simp only [List.getElem?_cons_succ, List.getElem?_cons_zero, Option.some.injEq] at ho
      subst ho
      obtain ⟨u0, e0⟩ := hdep ⟨5, .data⟩ (by simp) rfl _ 24 rfl rfl
      obtain ⟨u1, e1⟩ := hdep ⟨10, .data⟩ (by simp) rfl _ 29 rfl rfl
      rw [show vals 5 = .bool true from e0] at u0
      rw [show vals 10 = .bool true from e1] at u1
      unfold Oper.wp
      simp [execOp, go_sem, u0, u1]
      exact came _ rfl (Below.refl _ _) rfl (fun h => absurd h (by decide))
    | 12, _, ho =>
      simp only [List.getElem?_cons_succ, List.getElem?_cons_zero, Option.some.injEq] at ho
      subst ho
      obtain ⟨u0, e0⟩ := hdep ⟨11, .data⟩ (by simp) rfl _ 30 rfl rfl
      rw [show vals 11 = .bool true from e0] at u0
      unfold Oper.wp
      simp [execOp, go_sem, u0]
      exact came _ rfl (Below.refl _ _) rfl (fun h => absurd h (by decide))
  · intro vals x hX hR _
    have e4 : vals 12 = .bool true := hR 12 (by decide)
    simp only [List.drop, List.take, putAll, List.setIfInBounds_toArray, List.set_cons_succ, List.set_cons_zero, e4]
    go_wp2
    go_ret
    exact ⟨rfl, bgo hB hX⟩
end Go.Proofs.YteffpnjgchihpaaGreatDoor
namespace Go.Proofs.YteffpnjgchihpaaGreatDoor
open Go.RowKit Go.Extern.Stop Go.Stop Go.Extern
set_option maxRecDepth 100000

theorem lwOf {ad : Nat → Addr} {w : World} (L : Laid ad w) : Lw ad w := by
  refine ⟨fun k hk => ?_, ?_⟩
  · rcases hk with rfl | rfl | rfl | rfl
    · exact L.var 0 (by decide)
    · exact L.var 1 (by decide)
    · exact L.var 5 (by decide)
    · exact L.var 6 (by decide)
  · have h0 := lt_of_cell (L.var 0 (by decide))
    have h1 := lt_of_cell (L.var 1 (by decide))
    have h5 := lt_of_cell (L.var 5 (by decide))
    have h6 := lt_of_cell (L.var 6 (by decide))
    simp only [gix] at h0 h1 h5 h6
    omega
/-- The bytes of a message, none where it is not right. -/
def bOf (m : Pms) : List UInt8 := if rightB m = true then fMsg m else []
def ErB (ad : Nat → Addr) (m : Pms) (err : Value) (w : World) : Prop :=
  if rightB m = true then err = .nilIface else ∃ f, err = refv f ∧ w.heap[f]? = some (.cells #[.string nmPacket, .string nmBytes, .int .i64 (-1), rsn ad 5] 87 (0, 0))
theorem ErB.later {ad : Nat → Addr} {m : Pms} {err : Value} {w w' : World} (h : ErB ad m err w) (hb : Below w.heap.size w w') : ErB ad m err w' := by
  unfold ErB at h ⊢
  split at h
  · rw [if_pos (by assumption)]; exact h
  · rw [if_neg (by assumption)]
    obtain ⟨f, h1, h2⟩ := h
    exact ⟨f, h1, (hb.block f (Array.getElem?_eq_some_iff.1 h2).1).trans h2⟩
def NoB (m : Pms) (no : Array Value) (w : World) : Prop :=
  if rightB m = true then no = nov 0 none 0 0 none 0 0 else ∃ g g', no = nov 6 (some ⟨g', 0, none⟩) 1 1 (some ⟨g, 0, none⟩) 1 1 ∧ RowAt g' #[.string nmPacket, .string nmBytes, .int .i64 (-1)] 104 w ∧ RowAt g #[.int .i64 6] 3 w
theorem NoB.later {m : Pms} {no : Array Value} {w w' : World} (h : NoB m no w) (hb : Below w.heap.size w w') : NoB m no w' := by
  unfold NoB at h ⊢
  split at h
  · rw [if_pos (by assumption)]; exact h
  · rw [if_neg (by assumption)]
    obtain ⟨g, g', h1, h2, h3⟩ := h
    exact ⟨g, g', h1, h2.later hb, h3.later hb⟩
theorem bytesP_u {ad : Nat → Addr} (m : Pms) (s : Value) (w : World) (L : Lw ad w) (hm : fitM m) (hb : bndM m) (hA : SlA w s m.2.2.2.2.1) (hlen : (bOf m).length ≤ 1000000) :
    Calls Tryz.prog 7 #[.agg (mv m s)] w fun e w' => ∃ a c err, e = .returned (.tuple #[.slice a (bOf m).length c, err]) ∧ Rw 5 1 (.slice a (bOf m).length c) (bOf m).length (Lib.byteCells (bOf m)) w' ∧ (∀ k, (Value.slice a (bOf m).length c).ownBlock = some k → w.heap.size ≤ k) ∧ ErB ad m err w' ∧ Below w.heap.size w w' := by
  cases hr : rightB m with
  | true =>
    have e1 : bOf m = fMsg m := by unfold bOf; rw [if_pos hr]
    rw [e1] at hlen ⊢
    refine (bytesP_ok m s w hm hb hA ((right_ok hm hb).1 hr)).mono ?_
    rintro e w' ⟨g, hg, rfl, hc, hbl⟩
    exact ⟨_, _, _, rfl, ⟨by simp [Lib.byteCells_length], .inr ⟨g, _, _, rfl, hc, Nat.le_refl _, (by unfold maxLen; omega), (by simp [Lib.byteCells_length]), (by rw [Nat.mul_one, List.take_of_length_le (by simp [Lib.byteCells_length])])⟩⟩, (fun k hk => by cases hk; exact hg), (by unfold ErB; rw [if_pos hr]), hbl⟩
  | false =>
    have hn : ¬ rightB m = true := by rw [hr]; decide
    have e1 : bOf m = [] := by unfold bOf; rw [if_neg hn]
    rw [e1]
    refine (bytesP_no m s w L hm hA hr).mono ?_
    rintro e w' ⟨f, hf, rfl, hc, hbl⟩
    exact ⟨_, _, _, rfl, Rw.nil _ _ _, (fun k hk => absurd hk (by simp [Value.ownBlock])), (by unfold ErB; rw [if_neg hn]; exact ⟨f, rfl, hc⟩), hbl⟩
theorem ownB_len {base : Nat} {v : Value} {l : List UInt8} {w : World} (h : OwnB base v l w) : ∃ a c, v = .slice a l.length c := by
  rcases h.2 with ⟨rfl, h0⟩ | ⟨g, cap, cur, rfl, _⟩
  · exact ⟨none, 0, by rw [h0]⟩
  · exact ⟨_, _, rfl⟩
theorem refBytes_u (m : Pms) (s : Value) (w : World) (hm : fitM m) (hc : ckM m) (hb : bndM m) (hA : SlA w s m.2.2.2.2.1) (hn : m.2.2.2.2.1.length ≤ 60) :
    Calls Tryz.prog 5 #[.agg (mv m s)] w fun e w' => ∃ a c no, e = .returned (.tuple #[.slice a (bOf m).length c, .agg no]) ∧ SlB w' (.slice a (bOf m).length c) (bOf m) ∧ NoB m no w' ∧ (∃ c9 a9 n9 k9 a9' n9' k9', no = nov c9 a9 n9 k9 a9' n9' k9') ∧ Below w.heap.size w w' := by
  cases hr : rightB m with
  | true =>
    have e1 : bOf m = fMsg m := by unfold bOf; rw [if_pos hr]
    rw [e1]
    refine (refBytes_ok m s w hm hc hA hr ((right_ok hm hb).1 hr) hn).mono ?_
    rintro e w' ⟨v, rfl, ho, hbl⟩
    obtain ⟨a, c, rfl⟩ := ownB_len ho
    exact ⟨a, c, _, rfl, ownB_sl ho, (by unfold NoB; rw [if_pos hr]), ⟨_, _, _, _, _, _, _, rfl⟩, hbl⟩
  | false =>
    have hne : ¬ rightB m = true := by rw [hr]; decide
    have e1 : bOf m = [] := by unfold bOf; rw [if_neg hne]
    rw [e1]
    refine (refBytes_no m s w hm hc hA hr).mono ?_
    rintro e w' ⟨g, g', rfl, h1, h2, hbl⟩
    exact ⟨_, _, _, rfl, .inl ⟨rfl, _, _, rfl⟩, (by unfold NoB; rw [if_neg hne]; exact ⟨g, g', rfl, h1, h2⟩), ⟨_, _, _, _, _, _, _, rfl⟩, hbl⟩
theorem refused_b {ad : Nat → Addr} {m : Pms} {err : Value} {no : Array Value} {w : World} (L : Laid ad w) (hn : NoB m no w) (he : ErB ad m err w) :
    Calls Tryz.prog 10 #[err, .agg no] w fun e w' => e = .returned (.bool true) ∧ Below w.heap.size w w' := by
  unfold NoB at hn
  unfold ErB at he
  by_cases hr : rightB m = true
  · rw [if_pos hr] at hn he
    subst hn he
    exact refused_none _ _ _ _ _ _ _
  · rw [if_neg hr] at hn he
    obtain ⟨f, rfl, hx⟩ := he
    obtain ⟨g, g', rfl, h2, h3⟩ := hn
    have hS : ∀ x, Below w.heap.size w x → Spine ad x.heap.size x (.fault f nmPacket nmBytes (-1) (.rsn 5)) := fun x hb => by
      have l1 := (Array.getElem?_eq_some_iff.1 hx).1
      exact ⟨Nat.lt_of_lt_of_le l1 hb.size, (hb.block f l1).trans hx, (by intro e; cases e), (show (5 : Nat) < 14 by decide)⟩
    have hT := tells_of L (e := .fault f nmPacket nmBytes (-1) (.rsn 5)) (b := f) (k := 5) (by intro b g c l h; cases h) hS rfl (by intro h; cases h) rfl (by simp [deep])
    exact refused_err (a := some ⟨g', 0, none⟩) (c := 1) (a' := some ⟨g, 0, none⟩) (c' := 1) hT (by simp [chn]) ⟨rfl, .inr ⟨g', 0, 1, rfl, h2.lt, fun j u hu => (by rw [show lcells (chn (.fault f nmPacket nmBytes (-1) (.rsn 5))) = [.string nmPacket, .string nmBytes, .int .i64 (-1)] from rfl] at hu; rw [Nat.zero_add, h2.cell]; simpa using hu)⟩⟩ ⟨rfl, .inr ⟨g, 0, 1, rfl, h3.lt, fun j u hu => (by rw [Nat.zero_add, h3.cell]; simpa [ints] using hu)⟩⟩
theorem bOf_le {m : Pms} (hm : fitM m) (hb : bndM m) (hn : m.2.2.2.2.1.length ≤ 60) : (bOf m).length ≤ 20000 := by
  unfold bOf
  split
  · rename_i hr
    obtain ⟨hkd, hfr, hep, hbo⟩ := (right_ok hm hb).1 hr
    unfold okBody at hbo
    obtain ⟨h1, h2, h3⟩ := hbo
    have e1 : (fN m.2.1).length ≤ 9 := fN_le (by unfold mx63; omega)
    have e2 : (fN m.2.2.1).length ≤ 9 := fN_le hep.2
    have e3 : (if m.1 = 2 then fRow m.2.2.2.1 else []).length ≤ 81 := by
      split
      · rename_i h; rw [if_pos h] at h1; exact fRow_le h1
      · simp
    have e4 : (if m.1 = 1 ∨ m.1 = 3 then fActs m.2.2.2.2.1 else []).length ≤ 9 + 128 * 60 := by
      split
      · rename_i h; rw [if_pos h] at h2; exact fActsL_le h2.2 hn
      · simp
    have e5 : (if m.1 = 3 ∨ m.1 = 4 then fRnds m.2.2.2.2.2 else []).length ≤ 9 + 180 * 8 := by
      split
      · rename_i h; rw [if_pos h] at h3; exact fRndsL_le h3
      · simp
    unfold fMsg fBody
    simp only [List.length_cons, List.length_append]
    omega
  · simp
end Go.Proofs.YteffpnjgchihpaaGreatDoor
namespace Go.Proofs.YteffpnjgchihpaaGreatDoor
open Go.RowKit Go.Extern.Stop Go.Stop Go.Extern
set_option maxRecDepth 100000

/-- Messages in memory, one behind the other. -/
def SlMs (w : World) (v : Value) (ms : List (Pms × Value)) : Prop := (ms = [] ∧ ∃ a c, v = .slice a 0 c) ∨ ∃ g o c, v = .slice (some ⟨g, o, none⟩) ms.length c ∧
  ∀ i (x : Pms × Value), ms[i]? = some x → CsIn g (o + i * 156) (mv x.1 x.2) w ∧ shM x.1 ∧ (∀ a ∈ x.1.2.2.2.2.1, fitA a) ∧ bndM x.1 ∧ SlA w x.2 x.1.2.2.2.2.1 ∧ (∀ a n c, x.2 = .slice a n c → n ≤ c) ∧ ckM x.1
theorem cutM_ck {m : Pms} (h : ckM m) : ckM (cutM m) := ⟨h.1, fun a ha => h.2.1 a (List.mem_of_mem_take ha), h.2.2⟩
theorem cutM_le (m : Pms) : (cutM m).2.2.2.2.1.length ≤ 60 := by simp only [cutM, List.length_take]; omega
theorem mvP_set11 {m : Pms} (h : shM m) (s v : Value) : (mv m s).setIfInBounds 11 v = mv m v := by
  simp only [mv, List.setIfInBounds_toArray, ml]
  rw [show 11 = (8 + 0) + 1 + 1 + 1 by rfl, List.set_cons_succ, List.set_cons_succ, List.set_cons_succ, List.set_append_right _ _ (by simp [h.1]), List.length_map, h.1, show 8 - 8 = 0 from rfl, List.set_cons_zero]
theorem opw_convB {K : Act → World → Prop} {o : Oper} {A : Act} {w : World} {Q : Exit → Act → World → Prop} (x : Operand) (ho : o.op = .convert 33 9 x) {v : Value} {s : ByteArray} (hx : A.eval x = v) (hrun : (convert 33 9 v).run Tryz.prog w = .ok (.string s) w)
    (k : K (A.put o.dst (.string s)) w) : o.wp Tryz.prog A w K Q := by
  unfold Oper.wp execOp
  simp only [ho, hx, Sem.run_bind, hrun, Result.andThen_ok]
  exact k
theorem opw_ldP {P : Program} {K : Act → World → Prop} {o : Oper} {A : Act} {w : World} {Q : Exit → Act → World → Prop} (ty : TypeId) (x : Operand) (ho : o.op = .load ty x) {b off : Nat} (hx : A.eval x = .pointer (some ⟨b, off, none⟩)) {cs : Array Value} (h : CsIn b off cs w)
    {d : TypeDesc} (hu : P.underlying ty = some d) (hd : (match d with | .struct _ | .array _ _ => true | _ => false) = true) (hi : (P.info? ty).map (·.size) = some cs.size)
    (k : K (A.put o.dst (.agg cs)) w) : o.wp P A w K Q := by
  unfold Oper.wp execOp
  simp only [ho, hx, Instr.loadAt, Instr.sureAddr, Sem.run_bind, Sem.run_pure, Result.andThen_ok, run_loadVar_in h hu hd hi]
  exact k
theorem wpL_ldG {P : Program} {ops : Array Oper} {rest : List Oper} {o : Oper} {a : Act} {w : World} {Q : Exit → Act → World → Prop} (hw : Region.wanted o (yielded ops a.tmps) = true) (ty : TypeId) (x : Operand) (ho : o.op = .load ty x) {b off : Nat} (hx : a.eval x = .pointer (some ⟨b, off, none⟩)) {cs : Array Value} (h : CsIn b off cs w)
    {d : TypeDesc} (hu : P.underlying ty = some d) (hd : (match d with | .struct _ | .array _ _ => true | _ => false) = true) (hi : (P.info? ty).map (·.size) = some cs.size)
    (k : wpList P ops Q rest (a.put o.dst (.agg cs)) w) : wpList P ops Q (o :: rest) a w :=
  wpList_step fun K hK => by
    rw [if_pos hw]
    exact opw_ldP ty x ho hx h hu hd hi (hK _ _ k)
theorem zero_no9 : (Tryz.prog.info? 37).bind (·.zero) = some (.agg #[.int .i64 0, .slice none 0 0, .slice none 0 0]) := by kernel_rfl
theorem mv_z156 : (mv zeroM (.slice none 0 0)).size = 156 := by simp [mv, ml_len zeroM_sh]
theorem rw_slB9 {a : Option Addr} {c n : Nat} {bs : List UInt8} {w : World} (h : Rw 5 1 (.slice a n c) n (Lib.byteCells bs) w) (hn : bs.length = n) : SlB w (.slice a bs.length c) bs := by
  subst hn
  by_cases h0 : bs = []
  · subst h0; exact .inl ⟨rfl, a, c, rfl⟩
  · obtain ⟨g, rfl⟩ : ∃ g, a = some ⟨g, 0, none⟩ := by
      rcases h.2 with ⟨_, q2⟩ | ⟨g', _, _, q1, _⟩
      · exact absurd (List.length_eq_zero_iff.1 q2) h0
      · simp only [Value.slice.injEq] at q1
        exact ⟨g', q1.1⟩
    exact .inr ⟨g, 0, c, rfl, h.lt g rfl, fun i b hb => h.cells i _ (by rw [byteCells_at, hb]; rfl)⟩
theorem u8s_bytes (bs : List UInt8) : u8s (Lib.byteCells bs) := fun u hu => by
  obtain ⟨z, _, rfl⟩ := List.mem_map.1 hu
  exact ⟨_, rfl⟩
theorem slP_form {w : World} {v : Value} {l : List Pac} (h : SlA w v l) : ∃ a c, v = .slice a l.length c := by
  rcases h with ⟨rfl, a, c, rfl⟩ | ⟨g, o, c, rfl, _⟩
  · exact ⟨a, c, rfl⟩
  · exact ⟨_, c, rfl⟩
theorem zero_msP : (Tryz.prog.info? 31).bind (·.zero) = some (.agg (mv zeroM (.slice none 0 0))) := zero_ms
theorem wpL_allocQ9 {P : Program} {ops : Array Oper} {rest : List Oper} {o : Oper} {a : Act} {w : World} {Q : Exit → Act → World → Prop} (hgd : o.guard = none) (ty : TypeId) (ho : o.op = .alloc ty) {z : Array Value} (hz : (P.info? ty).bind (·.zero) = some (.agg z))
    (k : wpList P ops Q rest (a.put o.dst (.pointer (some ⟨w.heap.size, 0, none⟩))) (w.alloc (.cells z ty))) : wpList P ops Q (o :: rest) a w := wpL_alloc hgd ty ho hz k
theorem wpL_allocP {P : Program} {ops : Array Oper} {rest : List Oper} {o : Oper} {a : Act} {w : World} {Q : Exit → Act → World → Prop} (hgd : o.guard = none) (ty : TypeId) (ho : o.op = .alloc ty) {z : Array Value} (hz : (P.info? ty).bind (·.zero) = some (.agg z))
    (k : wpList P ops Q rest (a.put o.dst (.pointer (some ⟨w.heap.size, 0, none⟩))) (w.alloc (.cells z ty))) : wpList P ops Q (o :: rest) a w := wpL_alloc hgd ty ho hz k
end Go.Proofs.YteffpnjgchihpaaGreatDoor
