
/-
  Package causal: holds, Offer.
-/
import Derived.Test.YtlgdaaofpjpobaaDoorZca15
import Derived.Great.BuildSlice
namespace Go.Proofs.YtlgdaaofpjpobaaDoor
open Go.RowKit Go.Maps
set_option maxRecDepth 100000

set_option maxHeartbeats 2000000 in
theorem holds_is {B : Nat} {v : Value} {kb n : Nat} {m : Int} {l : List Ac} {w : World} (h : IbAt B v kb n m l w) {x : Ac} (hx : x.Full) :
    Calls Tryd.prog 36 #[.pointer (some ⟨B, 0, none⟩), .agg (acv x)] w fun e w' => e = .returned (.bool (namesOf l x.rep x.num)) ∧ Below w.heap.size w w' := by
  have H := hid_of' (h.later (below_one w (.cells (acv x) 48)))
  have HBX := hid_of' (box1 w x)
  have HB := hid_of' (below_one w (.cells (acv x) 48))
  clear h
  go_enter Tryd.func36, Tryd.ntmps36
  go_upto_region 1 with fail
  generalize w.alloc (.cells (acv x) 48) = W at H HBX HB ⊢
  refine wp_region_tail 13 (by kernel_rfl) (fun _ => none) (by kernel_rfl) (by kernel_rfl) (by decide) (fun i v X => match i with
    | 0 => v = .pointer (some ⟨B, 0, none⟩)
    | 1 => v = .pointer (some ⟨B, 0, none⟩)
    | 2 => v = .pointer (some ⟨B, 2, none⟩)
    | 3 => v = .map (some kb)
    | 4 => v = .agg (acv x)
    | 5 => v = .agg (nmc x.rep x.num)
    | 6 => v = .tuple #[.agg #[], .bool (namesOf l x.rep x.num)]
    | 7 => v = .tuple #[.agg #[], .bool (namesOf l x.rep x.num)]
    | 8 => v = .agg #[]
    | 9 => v = .bool (namesOf l x.rep x.num)
    | 10 => ∃ g, v = .pointer (some ⟨g, 0, none⟩)
    | 11 => True
    | 12 => v = .bool (namesOf l x.rep x.num)
    | _ => True) (fun _ => false) (fun _ _ _ _ h => by cases h) ?_ ?_ ?_
  · intro i v X X' hR hb
    match i, hR with
    | 0, h => exact h
    | 1, h => exact h
    | 2, h => exact h
    | 3, h => exact h
    | 4, h => exact h
    | 5, h => exact h
    | 6, h => exact h
    | 7, h => exact h
    | 8, h => exact h
    | 9, h => exact h
    | 10, h => exact h
    | 11, h => exact h
    | 12, h => exact h
    | m + 13, h => exact h
  · intro i o hi ho q X vals hX hdep hoth
    have t0 : q.tmps[0]? = some (.pointer (some ⟨B, 0, none⟩)) := by rw [hoth 0 (by kernel_rfl)]; rfl
    have t3 : q.tmps[3]? = some (.pointer (some ⟨w.heap.size, 0, none⟩)) := by rw [hoth 3 (by kernel_rfl)]; rfl
    match i, hi, ho with
    | 0, _, ho =>
      simp only [List.getElem?_cons_zero, Option.some.injEq] at ho
      subst ho
      unfold Oper.wp
      simp [execOp, go_sem, t0]
      exact came _ rfl (Below.refl _ _) rfl (fun h => absurd h (by decide))
    | 1, _, ho =>
      simp only [List.getElem?_cons_succ, List.getElem?_cons_zero, Option.some.injEq] at ho
      subst ho
      obtain ⟨u0, e0⟩ := hdep ⟨0, .data⟩ (by simp) rfl _ 8 rfl rfl
      rw [show vals 0 = .pointer (some ⟨B, 0, none⟩) from e0] at u0
      unfold Oper.wp
      simp [execOp, go_sem, u0]
      exact came _ rfl (Below.refl _ _) rfl (fun h => absurd h (by decide))
    | 2, _, ho =>
      simp only [List.getElem?_cons_succ, List.getElem?_cons_zero, Option.some.injEq] at ho
      subst ho
      obtain ⟨u1, e1⟩ := hdep ⟨1, .data⟩ (by simp) rfl _ 9 rfl rfl
      rw [show vals 1 = .pointer (some ⟨B, 0, none⟩) from e1] at u1
      unfold Oper.wp
      simp [execOp, go_sem, u1]
      exact came _ rfl (Below.refl _ _) rfl (fun h => absurd h (by decide))
    | 3, _, ho =>
      simp only [List.getElem?_cons_succ, List.getElem?_cons_zero, Option.some.injEq] at ho
      subst ho
      obtain ⟨u2, e2⟩ := hdep ⟨2, .data⟩ (by simp) rfl _ 10 rfl rfl
      rw [show vals 2 = .pointer (some ⟨B, 2, none⟩) from e2] at u2
      have cc : X.cell? ⟨B, 2, none⟩ = some (.map (some kb)) := (H.out.lies.later hX).cellIs 2 rfl
      unfold Oper.wp
      simp [execOp, go_sem, u2, cc]
      exact came _ rfl (Below.refl _ _) rfl (fun h => absurd h (by decide))
    | 4, _, ho =>
      simp only [List.getElem?_cons_succ, List.getElem?_cons_zero, Option.some.injEq] at ho
      subst ho
      exact opw_loadA _ rfl (by simp [Act.eval, t3]) hx.1 (HBX.out.later hX).in (came _ rfl (Below.refl _ _) rfl (fun h => absurd h (by decide)))
    | 5, _, ho =>
      simp only [List.getElem?_cons_succ, List.getElem?_cons_zero, Option.some.injEq] at ho
      subst ho
      obtain ⟨u4, e4⟩ := hdep ⟨4, .data⟩ (by simp) rfl _ 12 rfl rfl
      rw [show vals 4 = .agg (acv x) from e4] at u4
      unfold Oper.wp
      simp [go_sem, u4]
      refine (nameOf_is x X).mono ?_
      rintro r X1 ⟨rfl, hb1⟩
      exact came _ rfl hb1 rfl (fun h => absurd h (by decide))
    | 6, _, ho =>
      simp only [List.getElem?_cons_succ, List.getElem?_cons_zero, Option.some.injEq] at ho
      subst ho
      obtain ⟨u3, e3⟩ := hdep ⟨3, .data⟩ (by simp) rfl _ 11 rfl rfl
      rw [show vals 3 = .map (some kb) from e3] at u3
      obtain ⟨u5, e5⟩ := hdep ⟨5, .data⟩ (by simp) rfl _ 13 rfl rfl
      rw [show vals 5 = .agg (nmc x.rep x.num) from e5] at u5
      have cc := (H.out.map.later hX).look hx.2 hx.1.2
      unfold Oper.wp
      simp [execOp, go_sem, u3, u5, cc]
      exact came _ rfl (Below.refl _ _) rfl (fun h => absurd h (by decide))
    | 7, _, ho =>
      simp only [List.getElem?_cons_succ, List.getElem?_cons_zero, Option.some.injEq] at ho
      subst ho
      obtain ⟨u6, e6⟩ := hdep ⟨6, .data⟩ (by simp) rfl _ 14 rfl rfl
      rw [show vals 6 = .tuple #[.agg #[], .bool (namesOf l x.rep x.num)] from e6] at u6
      unfold Oper.wp
      simp [execOp, go_sem, u6]
      exact came _ rfl (Below.refl _ _) rfl (fun h => absurd h (by decide))
    | 8, _, ho =>
      simp only [List.getElem?_cons_succ, List.getElem?_cons_zero, Option.some.injEq] at ho
      subst ho
      obtain ⟨u7, e7⟩ := hdep ⟨7, .data⟩ (by simp) rfl _ 7 rfl rfl
      rw [show vals 7 = .tuple #[.agg #[], .bool (namesOf l x.rep x.num)] from e7] at u7
      unfold Oper.wp
      simp [execOp, go_sem, u7]
      exact came _ rfl (Below.refl _ _) rfl (fun h => absurd h (by decide))
    | 9, _, ho =>
      simp only [List.getElem?_cons_succ, List.getElem?_cons_zero, Option.some.injEq] at ho
      subst ho
      obtain ⟨u7, e7⟩ := hdep ⟨7, .data⟩ (by simp) rfl _ 7 rfl rfl
      rw [show vals 7 = .tuple #[.agg #[], .bool (namesOf l x.rep x.num)] from e7] at u7
      unfold Oper.wp
      simp [execOp, go_sem, u7]
      exact came _ rfl (Below.refl _ _) rfl (fun h => absurd h (by decide))
    | 10, _, ho =>
      simp only [List.getElem?_cons_succ, List.getElem?_cons_zero, Option.some.injEq] at ho
      subst ho
      unfold Oper.wp
      simp [execOp, go_sem]
      exact came _ rfl (below_one _ _) ⟨_, rfl⟩ (fun h => absurd h (by decide))
    | 11, _, ho =>
      simp only [List.getElem?_cons_succ, List.getElem?_cons_zero, Option.some.injEq] at ho
      subst ho
      obtain ⟨u10, e10⟩ := hdep ⟨10, .data⟩ (by simp) rfl _ 5 rfl rfl
      obtain ⟨u8, e8⟩ := hdep ⟨8, .data⟩ (by simp) rfl _ 15 rfl rfl
      rw [show vals 8 = .agg #[] from e8] at u8
      obtain ⟨g0, e10⟩ : ∃ g, vals 10 = .pointer (some ⟨g, 0, none⟩) := e10
      rw [e10] at u10
      unfold Oper.wp
      simp [execOp, go_sem, u10, u8]
      exact came undef rfl (Below.refl _ _) trivial (fun h => absurd h (by decide))
    | 12, _, ho =>
      simp only [List.getElem?_cons_succ, List.getElem?_cons_zero, Option.some.injEq] at ho
      subst ho
      obtain ⟨u9, e9⟩ := hdep ⟨9, .data⟩ (by simp) rfl _ 16 rfl rfl
      rw [show vals 9 = .bool (namesOf l x.rep x.num) from e9] at u9
      unfold Oper.wp
      simp [execOp, go_sem, u9]
      exact came _ rfl (Below.refl _ _) rfl (fun h => absurd h (by decide))
    | m + 13, hi, _ => exact absurd hi (by omega)
  · intro vals X hX hR _
    have e12 : vals 12 = .bool (namesOf l x.rep x.num) := hR 12 (by decide)
    have HB2 := hid_of' (bgo HB.out hX)
    clear hR hX
    simp only [List.drop, List.take, putAll, List.setIfInBounds_toArray, List.set_cons_succ, List.set_cons_zero, e12]
    clear e12
    go_wp2
    go_ret
    exact ⟨rfl, HB2.out⟩
theorem isNamed_v {x : Ac} {b : Bool} (hv : x.named = b) (w : World) : Calls Tryd.prog 33 #[.agg (acv x)] w fun e w' => e = .returned (.bool b) ∧ Below w.heap.size w w' := hv ▸ isNamed_is x w
theorem holds_v {B : Nat} {v : Value} {kb n : Nat} {m : Int} {l : List Ac} {w : World} (h : IbAt B v kb n m l w) {x : Ac} (hx : x.Full) {b : Bool} (hv : namesOf l x.rep x.num = b) :
    Calls Tryd.prog 36 #[.pointer (some ⟨B, 0, none⟩), .agg (acv x)] w fun e w' => e = .returned (.bool b) ∧ Below w.heap.size w w' := hv ▸ holds_is h hx
/-- What becomes of an act that is offered, and the row behind that. -/
def offR (h : List Int) (m : Int) (l : List Ac) (x : Ac) : Int × List Ac :=
  if x.named = false ∨ hasA h x = true then (2, l) else if rdyC h x = true then (1, l) else if namesOf l x.rep x.num = true then (4, l) else if m ≤ (l.length : Int) then (5, l) else (3, l ++ [x])
theorem fill_act (p : Ac) (hp : p.Fit) : Instr.fill (fun i => some (i * ((Tryd.prog.info? 48).get (by kernel_rfl)).size, ((Tryd.prog.info? 48).get (by kernel_rfl)).size)) ((Array.range (1 * ((Tryd.prog.info? 48).get (by kernel_rfl)).size)).map ((Value.agg (acv ac0)).cells[· % (Value.agg (acv ac0)).cells.size]!)) [(0, .agg (acv p))] = some (acv p) := by
  obtain ⟨k, t, c, r, n, ck⟩ := p
  have h8 : ck.length = 8 := hp.1.1
  clear hp
  match ck, h8 with
  | [a1, a2, a3, a4, a5, a6, a7, a8], _ =>
    show _ = _
    kernel_rfl
/-- A slice of one act. -/
theorem opw_oneA {K : Act → World → Prop} {o : Oper} {A : Act} {w : World} {Q : Exit → Act → World → Prop} (x : Operand) (ho : o.op = .buildSlice 37 1 #[(0, x)]) {p : Ac} (hx : A.eval x = .agg (acv p)) (hp : p.Fit)
    (k : K (A.put o.dst (.slice (some ⟨w.heap.size, 0, none⟩) 1 1)) (w.alloc (.cells (acv p) 48))) : o.wp Tryd.prog A w K Q := by
  have hs : (Tryd.prog.info? 48).isSome = true := by kernel_rfl
  have sz : ((Tryd.prog.info? 48).get hs).size = 13 := by kernel_rfl
  have e : ((#[(0, x)] : Array (Nat × Operand)).map fun (i, x) => (i, A.eval x)).toList = [(0, .agg (acv p))] := by
    simp only [List.map_toArray, List.map_cons, List.map_nil, hx]
  exact wp_buildSlice _ 48 1 _ ho (acv p) ((Tryd.prog.info? 48).get hs) (.agg (acv ac0)) (by kernel_rfl) (Option.some_get hs).symm (by kernel_rfl) (by rw [sz]; decide) (by rw [sz]; decide) (by rw [e]; exact fill_act p hp) k
end Go.Proofs.YtlgdaaofpjpobaaDoor
