
/-
  Package undo: isKind, turned; barrowref13.Back, Again.
-/
import Derived.Test.YtgkbgojgpomcdaaDoorUn0
import Derived.Test.YtgkbgojgpomcdaaDoorInvN
namespace Go.Proofs.YtgkbgojgpomcdaaDoor
open Go.RowKit Go.Extern.Stop Go.Stop Go.Extern
set_option maxRecDepth 100000

def okK (k : Int) : Bool := decide (1 ≤ k) && decide (k ≤ 3)
/-- What a table of three kinds makes of a kind. -/
def tT (x y z k : Int) : Int := if k = 1 then x else if k = 2 then y else z
def turnL (t : Int → Int) : List Xg → List Xg
  | [] => []
  | e :: l => if okK e.k then ⟨t e.k, e.a, e.b, e.c⟩ :: turnL t l else turnL t l
theorem turnL_app (t : Int → Int) : ∀ a b : List Xg, turnL t (a ++ b) = turnL t a ++ turnL t b
  | [], _ => rfl
  | e :: l, b => by
    simp only [List.cons_append, turnL, turnL_app t l b]
    split <;> rfl
theorem turnL_len (t : Int → Int) : ∀ l : List Xg, (turnL t l).length ≤ l.length
  | [] => Nat.le_refl _
  | e :: l => by
    have := turnL_len t l
    simp only [turnL]
    split
    · simp only [List.length_cons]; omega
    · simp only [List.length_cons]; omega
theorem turnL_yes {t : Int → Int} {l : List Xg} {k : Nat} {e : Xg} (h : l[k]? = some e) (hk : okK e.k = true) : turnL t (l.take (k + 1)) = turnL t (l.take k) ++ [⟨t e.k, e.a, e.b, e.c⟩] := by
  rw [List.take_add_one, h, turnL_app]
  simp [turnL, hk]
theorem turnL_no {t : Int → Int} {l : List Xg} {k : Nat} {e : Xg} (h : l[k]? = some e) (hk : okK e.k = false) : turnL t (l.take (k + 1)) = turnL t (l.take k) := by
  rw [List.take_add_one, h, turnL_app]
  simp [turnL, hk]
theorem okK_three {k : Int} (h : okK k = true) : k = 1 ∨ k = 2 ∨ k = 3 := by
  simp only [okK, Bool.and_eq_true, decide_eq_true_eq] at h
  omega
theorem isKind_is (k : Int) (w : World) : Calls Tryd.prog 55 #[.int .i64 k] w fun e w' => e = .returned (.bool (okK k)) ∧ w' = w := by
  unfold okK
  by_cases h0 : 1 ≤ k
  · by_cases h1 : k ≤ 3
    · rw [decide_eq_true h0, decide_eq_true h1]
      go_enter Tryd.func55, Tryd.ntmps55
      go_wp2
      go_ret
      exact ⟨rfl, rfl⟩
    · rw [decide_eq_true h0, decide_eq_false h1]
      go_enter Tryd.func55, Tryd.ntmps55
      go_wp2
      go_ret
      exact ⟨rfl, rfl⟩
  · rw [decide_eq_false h0]
    go_enter Tryd.func55, Tryd.ntmps55
    go_wp2
    go_ret
    exact ⟨rfl, rfl⟩

theorem id_size : (Tryd.prog.info? 64).map (·.size) = some 3 := by kernel_rfl
theorem opw_loadID {K : Act → World → Prop} {o : Oper} {A : Act} {w : World} {Q : Exit → Act → World → Prop} (x : Operand) (ho : o.op = .load 64 x) {b off : Nat} (hx : A.eval x = .pointer (some ⟨b, off, none⟩)) {p q r : Int} (h : CsIn b off #[.int .i64 p, .int .i64 q, .int .i64 r] w)
    (k : K (A.put o.dst (.agg #[.int .i64 p, .int .i64 q, .int .i64 r])) w) : o.wp Tryd.prog A w K Q := by
  unfold Oper.wp execOp
  simp only [ho, hx, Instr.loadAt, Instr.sureAddr, Sem.run_bind, Sem.run_pure, Result.andThen_ok, run_loadVar_in h Tryd.underlying64 rfl id_size]
  exact k
theorem g_id {b off : Nat} {e : Xg} {w : World} (h : CsIn b off (xgv e) w) : CsIn b (off + 1) #[.int .i64 e.a, .int .i64 e.b, .int .i64 e.c] w := ⟨h.1, fun j v hv => by
  match j, hv with
  | 0, hv => exact h.2 1 v hv
  | 1, hv => exact h.2 2 v hv
  | 2, hv => exact h.2 3 v hv
  | j + 3, hv => simp at hv⟩
theorem g_kind {b off : Nat} {e : Xg} {w : World} (h : CsIn b off (xgv e) w) : w.cell? ⟨b, off, none⟩ = some (.int .i64 e.k) := h.2 0 _ rfl
/-- A row of one change has come up. -/
def OnX (e : Xg) (v : Value) (x : World) : Prop := ∃ g, v = .slice (some ⟨g, 0, none⟩) 1 1 ∧ So 4 v [e].length (xcells [e]) x ∧ g < x.heap.size
theorem OnX.later {e : Xg} {v : Value} {x x' : World} (h : OnX e v x) (hb : Below x.heap.size x x') : OnX e v x' := by
  obtain ⟨g, h1, ⟨h2, h3⟩, h4⟩ := h
  refine ⟨g, h1, ⟨h2, ?_⟩, Nat.lt_of_lt_of_le h4 hb.size⟩
  rcases h3 with ⟨q, _⟩ | ⟨ad, cc, q1, q2⟩
  · cases q
  · rw [h1] at q1
    cases q1
    refine .inr ⟨⟨g, 0, none⟩, 1, h1, fun j u hj => ?_⟩
    rw [hb.cell (p := (⟨g, 0, none⟩ : Addr).add j) (by rw [Addr.add_lit]; exact h4)]
    exact q2 j u hj
/-- A row of changes that came about since. -/
def NwX (B : Nat) (v : Value) (l : List Xg) (w : World) : Prop := RwX v l w ∧ ∀ k, v.ownBlock = some k → B ≤ k
theorem NwX.later {B : Nat} {l : List Xg} {v : Value} {x x' : World} (h : NwX B v l x) (hb : Below x.heap.size x x') : NwX B v l x' := ⟨Rw.later h.1 hb, h.2⟩
set_option maxHeartbeats 4000000 in
theorem turned_ok (x y z : Int) {w : World} {v : Value} {l : List Xg} (h : SlD w v l) (hl : l.length ≤ 4398046510976) :
    Calls Tryd.prog 48 #[.agg #[.int .i64 0, .int .i64 x, .int .i64 y, .int .i64 z], v] w fun e w' => ∃ u, e = .returned u ∧ NwX w.heap.size u (turnL (tT x y z) l) w' ∧ Below w.heap.size w w' := by
  obtain ⟨a, c, rfl⟩ := h.form
  have ht0 := row_new w #[.int .i64 0, .int .i64 x, .int .i64 y, .int .i64 z] 85
  have hb0 := below_one w (.cells #[.int .i64 0, .int .i64 x, .int .i64 y, .int .i64 z] 85)
  have HD := hid_of' h
  clear h
  go_enter Tryd.func48, Tryd.ntmps48
  go_upto_region 3 with fail
  generalize w.alloc (.cells #[.int .i64 0, .int .i64 x, .int .i64 y, .int .i64 z] 85) = W0 at ht0 hb0 ⊢
  generalize htb : w.heap.size = tb at ht0 ⊢
  go_loopw [5, 10] (fun ov iv wr => ∃ k : Nat, iv = .int .i64 (k : Int) ∧ k ≤ l.length ∧ NwX (tb + 1) ov (turnL (tT x y z) (l.take k)) wr ∧ RowAt tb #[.int .i64 0, .int .i64 x, .int .i64 y, .int .i64 z] 85 wr ∧ Below w.heap.size w wr) (fun _ iv _ => l.length - (intOf iv).toNat)
  case atStart => exact ⟨0, rfl, Nat.zero_le _, ⟨RwX.nil _, fun k hk => by cases hk⟩, ht0, hb0⟩
  case round =>
    obtain ⟨k, rfl, hk, hO, ht, hB⟩ := hrel
    by_cases hkl : k < l.length
    · have hki : (k : Int) < (l.length : Int) := by omega
      obtain ⟨e, he⟩ : ∃ e, l[k]? = some e := ⟨_, List.getElem?_eq_getElem hkl⟩
      obtain ⟨_, g, o_, rfl, hcell⟩ := (HD.out).some' (by rintro rfl; simp at hkl)
      have hce := (hcell k e he).later hB
      have HI := hid_of' (isKind_is e.k)
      have hOl : (turnL (tT x y z) (l.take k)).length ≤ 4398046510976 := by
        have := turnL_len (tT x y z) (l.take k)
        rw [List.length_take] at this
        omega
      cases hok : okK e.k
      · rw [hok] at HI
        have HT := hid_of' (turnL_no (t := tT x y z) he hok)
        have HR := hid_of' (And.intro hO (And.intro ht hB))
        have hr7 := row_new wr (xgv e) 66
        clear hO ht hB hcell hok he
        obtain ⟨a5, c5, rfl, _⟩ := Rw.form HR.out.1.1
        go_upto_region 5 with (first | (refine wpL_loadG rfl _ rfl rfl hce ?_) | (refine wpL_storeGr (q := ⟨0, 0, 0, 0⟩) rfl _ _ rfl rfl rfl (row_new wr _ _) ?_))
        have r7 := (row_new wr (xgv ⟨0, 0, 0, 0⟩) 66).put (xgv e)
        have b7 := below_row (below_one wr (.cells (xgv ⟨0, 0, 0, 0⟩) 66)) (Nat.le_refl _) (xgv e)
        change Code.wp _ _ _ _ ((wr.alloc (.cells (xgv ⟨0, 0, 0, 0⟩) 66)).setRow wr.heap.size (xgv e))
        generalize (wr.alloc (.cells (xgv ⟨0, 0, 0, 0⟩) 66)).setRow wr.heap.size (xgv e) = W7 at r7 b7 ⊢
        have c7 : W7.cell? ⟨wr.heap.size, 0, none⟩ = some (.int .i64 e.k) := r7.cellIs 0 rfl
        go_wp2_with (go_at_call 55; refine (HI.out _).mono ?_; rintro e w1 ⟨rfl, h0⟩; obtain rfl := h0.symm)
        go_roundw
        case rel =>
          refine ⟨k + 1, by go_num, by omega, ?_, HR.out.2.1.later b7, bgo HR.out.2.2 b7⟩
          rw [HT.out]
          exact HR.out.1.later b7
        case measure => simp [intOf]; omega
      · rw [hok] at HI
        have HT := hid_of' (turnL_yes (t := tT x y z) he hok)
        have hk3 := okK_three hok
        clear hcell hok he
        go_upto_region 5 with (first | (refine wpL_loadG rfl _ rfl rfl hce ?_) | (refine wpL_storeGr (q := ⟨0, 0, 0, 0⟩) rfl _ _ rfl rfl rfl (row_new wr _ _) ?_))
        have r7 := (row_new wr (xgv ⟨0, 0, 0, 0⟩) 66).put (xgv e)
        have b7 := below_row (below_one wr (.cells (xgv ⟨0, 0, 0, 0⟩) 66)) (Nat.le_refl _) (xgv e)
        change Code.wp _ _ _ _ ((wr.alloc (.cells (xgv ⟨0, 0, 0, 0⟩) 66)).setRow wr.heap.size (xgv e))
        generalize (wr.alloc (.cells (xgv ⟨0, 0, 0, 0⟩) 66)).setRow wr.heap.size (xgv e) = W7 at r7 b7 ⊢
        have c7 : W7.cell? ⟨wr.heap.size, 0, none⟩ = some (.int .i64 e.k) := r7.cellIs 0 rfl
        replace hO := hO.later b7
        replace ht := ht.later b7
        replace hB := bgo hB b7
        have hc := r7
        clear hce b7 r7
        go_upto_region 6 with (go_at_call 55; refine (HI.out _).mono ?_; rintro e w1 ⟨rfl, h0⟩; obtain rfl := h0.symm)
        clear HI c7
        generalize wr.heap.size = cb at hc ⊢
        obtain ⟨aO, cO, rfl, _⟩ := Rw.form hO.1
        have HLn := hid_of' hOl
        have HO := hid_of' hO
        clear hO hOl
        obtain ⟨nO, hnO⟩ : ∃ nO, nO = (turnL (tT x y z) (l.take k)).length := ⟨_, rfl⟩
        rw [← hnO] at HO ⊢
        replace hnO := hid_of' hnO
        obtain ⟨ek, ea, eb, ec⟩ := e
        have HT : Hid (turnL (tT x y z) (l.take (k + 1)) = turnL (tT x y z) (l.take k) ++ [⟨tT x y z ek, ea, eb, ec⟩]) := HT.out
        have hk3 : ek = 1 ∨ ek = 2 ∨ ek = 3 := hk3
        clear wr
        rcases hk3 with hk3 | hk3 | hk3
        · have hkk : ek = 1 := hk3
          subst hkk
          clear hk3
          refine wp_region_tailN 9 (by kernel_rfl) (fun _ => none) (by kernel_rfl) (by kernel_rfl) (by decide) (fun i v x9 => match i with
            | 0 => v = .slice aO nO cO
            | 1 => v = .pointer (some ⟨cb, 0, none⟩)
            | 2 => v = .int .i64 1
            | 3 => v = .pointer (some ⟨tb, 1, none⟩)
            | 4 => v = .int .i64 x
            | 5 => v = .pointer (some ⟨cb, 1, none⟩)
            | 6 => v = .agg #[.int .i64 ea, .int .i64 eb, .int .i64 ec]
            | 7 => v = .agg #[.int .i64 x, .int .i64 ea, .int .i64 eb, .int .i64 ec]
            | 8 => OnX ⟨x, ea, eb, ec⟩ v x9
            | _ => True) (fun _ => false) (fun _ _ _ _ h => by cases h) ?_ ?_ ?_
          · intro i v x9 x9' hR hb
            match i, hR with
            | 0, h => exact h
            | 1, h => exact h
            | 2, h => exact h
            | 3, h => exact h
            | 4, h => exact h
            | 5, h => exact h
            | 6, h => exact h
            | 7, h => exact h
            | 8, h => exact h.later hb
            | m + 9, h => exact h
          · intro i o hi ho q x9 vals hX hdep hoth
            have t5 : q.tmps[5]? = some (.slice aO nO cO) := by rw [hoth 5 (by kernel_rfl)]; rfl
            have t7 : q.tmps[7]? = some (.pointer (some ⟨cb, 0, none⟩)) := by rw [hoth 7 (by kernel_rfl)]; rfl
            have t2 : q.tmps[2]? = some (.pointer (some ⟨tb, 0, none⟩)) := by rw [hoth 2 (by kernel_rfl)]; rfl
            match i, hi, ho with
            | 0, _, ho =>
              simp only [List.getElem?_cons_zero, Option.some.injEq] at ho
              subst ho
              unfold Oper.wp
              simp [execOp, go_sem, t5]
              exact came _ rfl (Below.refl _ _) rfl (fun h => absurd h (by decide))
            | 1, _, ho =>
              simp only [List.getElem?_cons_succ, List.getElem?_cons_zero, Option.some.injEq] at ho
              subst ho
              unfold Oper.wp
              simp [execOp, go_sem, t7]
              exact came _ rfl (Below.refl _ _) rfl (fun h => absurd h (by decide))
            | 2, _, ho =>
              simp only [List.getElem?_cons_succ, List.getElem?_cons_zero, Option.some.injEq] at ho
              subst ho
              obtain ⟨u1, e1⟩ := hdep ⟨1, .data⟩ (by simp) rfl _ 18 rfl rfl
              rw [show vals 1 = .pointer (some ⟨cb, 0, none⟩) from e1] at u1
              have c0 : x9.cell? ⟨cb, 0, none⟩ = some (.int .i64 1) := (hc.later hX).cellIs 0 rfl
              unfold Oper.wp
              simp [execOp, go_sem, u1, c0]
              exact came _ rfl (Below.refl _ _) rfl (fun h => absurd h (by decide))
            | 3, _, ho =>
              simp only [List.getElem?_cons_succ, List.getElem?_cons_zero, Option.some.injEq] at ho
              subst ho
              obtain ⟨u2, e2⟩ := hdep ⟨2, .data⟩ (by simp) rfl _ 19 rfl rfl
              rw [show vals 2 = .int .i64 1 from e2] at u2
              unfold Oper.wp
              simp [execOp, go_sem, u2, t2]
              exact came _ rfl (Below.refl _ _) rfl (fun h => absurd h (by decide))
            | 4, _, ho =>
              simp only [List.getElem?_cons_succ, List.getElem?_cons_zero, Option.some.injEq] at ho
              subst ho
              obtain ⟨u3, e3⟩ := hdep ⟨3, .data⟩ (by simp) rfl _ 20 rfl rfl
              rw [show vals 3 = .pointer (some ⟨tb, 1, none⟩) from e3] at u3
              have c0 : x9.cell? ⟨tb, 1, none⟩ = some (.int .i64 x) := (ht.later hX).cellIs 1 rfl
              unfold Oper.wp
              simp [execOp, go_sem, u3, c0]
              exact came _ rfl (Below.refl _ _) rfl (fun h => absurd h (by decide))
            | 5, _, ho =>
              simp only [List.getElem?_cons_succ, List.getElem?_cons_zero, Option.some.injEq] at ho
              subst ho
              unfold Oper.wp
              simp [execOp, go_sem, t7]
              exact came _ rfl (Below.refl _ _) rfl (fun h => absurd h (by decide))
            | 6, _, ho =>
              simp only [List.getElem?_cons_succ, List.getElem?_cons_zero, Option.some.injEq] at ho
              subst ho
              obtain ⟨u5, e5⟩ := hdep ⟨5, .data⟩ (by simp) rfl _ 22 rfl rfl
              rw [show vals 5 = .pointer (some ⟨cb, 1, none⟩) from e5] at u5
              exact opw_loadID _ rfl (by simp [Act.eval, u5]) ((g_id (off := 0) hc.in).later hX) (came _ rfl (Below.refl _ _) rfl (fun h => absurd h (by decide)))
            | 7, _, ho =>
              simp only [List.getElem?_cons_succ, List.getElem?_cons_zero, Option.some.injEq] at ho
              subst ho
              obtain ⟨u4, e4⟩ := hdep ⟨4, .data⟩ (by simp) rfl _ 21 rfl rfl
              rw [show vals 4 = .int .i64 x from e4] at u4
              obtain ⟨u6, e6⟩ := hdep ⟨6, .data⟩ (by simp) rfl _ 23 rfl rfl
              rw [show vals 6 = .agg #[.int .i64 ea, .int .i64 eb, .int .i64 ec] from e6] at u6
              unfold Oper.wp
              simp [execOp, go_sem, u4, u6]
              exact came _ rfl (Below.refl _ _) rfl (fun h => absurd h (by decide))
            | 8, _, ho =>
              simp only [List.getElem?_cons_succ, List.getElem?_cons_zero, Option.some.injEq] at ho
              subst ho
              obtain ⟨u7, e7⟩ := hdep ⟨7, .data⟩ (by simp) rfl _ 24 rfl rfl
              rw [show vals 7 = .agg #[.int .i64 x, .int .i64 ea, .int .i64 eb, .int .i64 ec] from e7] at u7
              unfold Oper.wp
              simp [execOp, go_sem, u7]
              exact came _ rfl (below_one _ _) ⟨x9.heap.size, rfl, so_g x9 ⟨x, ea, eb, ec⟩, by simp⟩ (fun h => absurd h (by decide))
            | m + 9, hi, _ => exact absurd hi (by omega)
          · intro vals x9 hX9 hR9 _
            obtain ⟨g9, q9, qs, qg⟩ : OnX ⟨x, ea, eb, ec⟩ (vals 8) x9 := hR9 8 (by decide)
            have r0 : vals 0 = .slice aO nO cO := hR9 0 (by decide)
            have hsz := hX9.size
            simp only [List.take, List.drop, putAll, r0, q9]
            rw [q9] at qs
            clear q9 r0 hR9
            simp only [List.setIfInBounds_toArray, List.set_cons_succ, List.set_cons_zero]
            go_wp2_with (at_builtin; refine wpL_appG (m := [⟨x, ea, eb, ec⟩]) rfl _ _ rfl rfl rfl (HO.out.1.later hX9) qs (by show _ + 1 ≤ _; have := HLn.out; omega) ?_; intro v3 w3 h3 hg3 hat3; obtain ⟨a3, c3, h3v, _⟩ := Rw.form h3; generalize List.length _ = n3 at h3v; subst h3v)
            have hB3 : Below w.heap.size w w3 := (hB.trans (hX9.mono hB.size)).grown hg3 (by have := hB.size; omega) (fun j hj => by have := HO.out.2 j hj; omega)
            go_roundw
            case rel =>
              have h9 := HT.out
              rw [show tT x y z 1 = x from rfl] at h9
              refine ⟨k + 1, by go_num, by omega, ⟨?_, fun j hj => ?_⟩, (ht.later hX9).grow hg3 (fun q9 => by have := HO.out.2 _ q9; omega), hB3⟩
              · show RwX _ _ _
                rw [h9]
                exact h3
              · rcases hat3 j hj with q | q
                · exact HO.out.2 j q
                · have := hB.size; have := ht.lt; omega
            case measure => simp [intOf]; omega
        · have hkk : ek = 2 := hk3
          subst hkk
          clear hk3
          refine wp_region_tailN 9 (by kernel_rfl) (fun _ => none) (by kernel_rfl) (by kernel_rfl) (by decide) (fun i v x9 => match i with
            | 0 => v = .slice aO nO cO
            | 1 => v = .pointer (some ⟨cb, 0, none⟩)
            | 2 => v = .int .i64 2
            | 3 => v = .pointer (some ⟨tb, 2, none⟩)
            | 4 => v = .int .i64 y
            | 5 => v = .pointer (some ⟨cb, 1, none⟩)
            | 6 => v = .agg #[.int .i64 ea, .int .i64 eb, .int .i64 ec]
            | 7 => v = .agg #[.int .i64 y, .int .i64 ea, .int .i64 eb, .int .i64 ec]
            | 8 => OnX ⟨y, ea, eb, ec⟩ v x9
            | _ => True) (fun _ => false) (fun _ _ _ _ h => by cases h) ?_ ?_ ?_
          · intro i v x9 x9' hR hb
            match i, hR with
            | 0, h => exact h
            | 1, h => exact h
            | 2, h => exact h
            | 3, h => exact h
            | 4, h => exact h
            | 5, h => exact h
            | 6, h => exact h
            | 7, h => exact h
            | 8, h => exact h.later hb
            | m + 9, h => exact h
          · intro i o hi ho q x9 vals hX hdep hoth
            have t5 : q.tmps[5]? = some (.slice aO nO cO) := by rw [hoth 5 (by kernel_rfl)]; rfl
            have t7 : q.tmps[7]? = some (.pointer (some ⟨cb, 0, none⟩)) := by rw [hoth 7 (by kernel_rfl)]; rfl
            have t2 : q.tmps[2]? = some (.pointer (some ⟨tb, 0, none⟩)) := by rw [hoth 2 (by kernel_rfl)]; rfl
            match i, hi, ho with
            | 0, _, ho =>
              simp only [List.getElem?_cons_zero, Option.some.injEq] at ho
              subst ho
              unfold Oper.wp
              simp [execOp, go_sem, t5]
              exact came _ rfl (Below.refl _ _) rfl (fun h => absurd h (by decide))
            | 1, _, ho =>
              simp only [List.getElem?_cons_succ, List.getElem?_cons_zero, Option.some.injEq] at ho
              subst ho
              unfold Oper.wp
              simp [execOp, go_sem, t7]
              exact came _ rfl (Below.refl _ _) rfl (fun h => absurd h (by decide))
            | 2, _, ho =>
              simp only [List.getElem?_cons_succ, List.getElem?_cons_zero, Option.some.injEq] at ho
              subst ho
              obtain ⟨u1, e1⟩ := hdep ⟨1, .data⟩ (by simp) rfl _ 18 rfl rfl
              rw [show vals 1 = .pointer (some ⟨cb, 0, none⟩) from e1] at u1
              have c0 : x9.cell? ⟨cb, 0, none⟩ = some (.int .i64 2) := (hc.later hX).cellIs 0 rfl
              unfold Oper.wp
              simp [execOp, go_sem, u1, c0]
              exact came _ rfl (Below.refl _ _) rfl (fun h => absurd h (by decide))
            | 3, _, ho =>
              simp only [List.getElem?_cons_succ, List.getElem?_cons_zero, Option.some.injEq] at ho
              subst ho
              obtain ⟨u2, e2⟩ := hdep ⟨2, .data⟩ (by simp) rfl _ 19 rfl rfl
              rw [show vals 2 = .int .i64 2 from e2] at u2
              unfold Oper.wp
              simp [execOp, go_sem, u2, t2]
              exact came _ rfl (Below.refl _ _) rfl (fun h => absurd h (by decide))
            | 4, _, ho =>
              simp only [List.getElem?_cons_succ, List.getElem?_cons_zero, Option.some.injEq] at ho
              subst ho
              obtain ⟨u3, e3⟩ := hdep ⟨3, .data⟩ (by simp) rfl _ 20 rfl rfl
              rw [show vals 3 = .pointer (some ⟨tb, 2, none⟩) from e3] at u3
              have c0 : x9.cell? ⟨tb, 2, none⟩ = some (.int .i64 y) := (ht.later hX).cellIs 2 rfl
              unfold Oper.wp
              simp [execOp, go_sem, u3, c0]
              exact came _ rfl (Below.refl _ _) rfl (fun h => absurd h (by decide))
            | 5, _, ho =>
              simp only [List.getElem?_cons_succ, List.getElem?_cons_zero, Option.some.injEq] at ho
              subst ho
              unfold Oper.wp
              simp [execOp, go_sem, t7]
              exact came _ rfl (Below.refl _ _) rfl (fun h => absurd h (by decide))
            | 6, _, ho =>
              simp only [List.getElem?_cons_succ, List.getElem?_cons_zero, Option.some.injEq] at ho
              subst ho
              obtain ⟨u5, e5⟩ := hdep ⟨5, .data⟩ (by simp) rfl _ 22 rfl rfl
              rw [show vals 5 = .pointer (some ⟨cb, 1, none⟩) from e5] at u5
              exact opw_loadID _ rfl (by simp [Act.eval, u5]) ((g_id (off := 0) hc.in).later hX) (came _ rfl (Below.refl _ _) rfl (fun h => absurd h (by decide)))
            | 7, _, ho =>
              simp only [List.getElem?_cons_succ, List.getElem?_cons_zero, Option.some.injEq] at ho
              subst ho
              obtain ⟨u4, e4⟩ := hdep ⟨4, .data⟩ (by simp) rfl _ 21 rfl rfl
              rw [show vals 4 = .int .i64 y from e4] at u4
              obtain ⟨u6, e6⟩ := hdep ⟨6, .data⟩ (by simp) rfl _ 23 rfl rfl
              rw [show vals 6 = .agg #[.int .i64 ea, .int .i64 eb, .int .i64 ec] from e6] at u6
              unfold Oper.wp
              simp [execOp, go_sem, u4, u6]
              exact came _ rfl (Below.refl _ _) rfl (fun h => absurd h (by decide))
            | 8, _, ho =>
              simp only [List.getElem?_cons_succ, List.getElem?_cons_zero, Option.some.injEq] at ho
              subst ho
              obtain ⟨u7, e7⟩ := hdep ⟨7, .data⟩ (by simp) rfl _ 24 rfl rfl
              rw [show vals 7 = .agg #[.int .i64 y, .int .i64 ea, .int .i64 eb, .int .i64 ec] from e7] at u7
              unfold Oper.wp
              simp [execOp, go_sem, u7]
              exact came _ rfl (below_one _ _) ⟨x9.heap.size, rfl, so_g x9 ⟨y, ea, eb, ec⟩, by simp⟩ (fun h => absurd h (by decide))
            | m + 9, hi, _ => exact absurd hi (by omega)
          · intro vals x9 hX9 hR9 _
            obtain ⟨g9, q9, qs, qg⟩ : OnX ⟨y, ea, eb, ec⟩ (vals 8) x9 := hR9 8 (by decide)
            have r0 : vals 0 = .slice aO nO cO := hR9 0 (by decide)
            have hsz := hX9.size
            simp only [List.take, List.drop, putAll, r0, q9]
            rw [q9] at qs
            clear q9 r0 hR9
            simp only [List.setIfInBounds_toArray, List.set_cons_succ, List.set_cons_zero]
            go_wp2_with (at_builtin; refine wpL_appG (m := [⟨y, ea, eb, ec⟩]) rfl _ _ rfl rfl rfl (HO.out.1.later hX9) qs (by show _ + 1 ≤ _; have := HLn.out; omega) ?_; intro v3 w3 h3 hg3 hat3; obtain ⟨a3, c3, h3v, _⟩ := Rw.form h3; generalize List.length _ = n3 at h3v; subst h3v)
            have hB3 : Below w.heap.size w w3 := (hB.trans (hX9.mono hB.size)).grown hg3 (by have := hB.size; omega) (fun j hj => by have := HO.out.2 j hj; omega)
            go_roundw
            case rel =>
              have h9 := HT.out
              rw [show tT x y z 2 = y from rfl] at h9
              refine ⟨k + 1, by go_num, by omega, ⟨?_, fun j hj => ?_⟩, (ht.later hX9).grow hg3 (fun q9 => by have := HO.out.2 _ q9; omega), hB3⟩
              · show RwX _ _ _
                rw [h9]
                exact h3
              · rcases hat3 j hj with q | q
                · exact HO.out.2 j q
                · have := hB.size; have := ht.lt; omega
            case measure => simp [intOf]; omega
        · have hkk : ek = 3 := hk3
          subst hkk
          clear hk3
          refine wp_region_tailN 9 (by kernel_rfl) (fun _ => none) (by kernel_rfl) (by kernel_rfl) (by decide) (fun i v x9 => match i with
            | 0 => v = .slice aO nO cO
            | 1 => v = .pointer (some ⟨cb, 0, none⟩)
            | 2 => v = .int .i64 3
            | 3 => v = .pointer (some ⟨tb, 3, none⟩)
            | 4 => v = .int .i64 z
            | 5 => v = .pointer (some ⟨cb, 1, none⟩)
            | 6 => v = .agg #[.int .i64 ea, .int .i64 eb, .int .i64 ec]
            | 7 => v = .agg #[.int .i64 z, .int .i64 ea, .int .i64 eb, .int .i64 ec]
            | 8 => OnX ⟨z, ea, eb, ec⟩ v x9
            | _ => True) (fun _ => false) (fun _ _ _ _ h => by cases h) ?_ ?_ ?_
          · intro i v x9 x9' hR hb
            match i, hR with
            | 0, h => exact h
            | 1, h => exact h
            | 2, h => exact h
            | 3, h => exact h
            | 4, h => exact h
            | 5, h => exact h
            | 6, h => exact h
            | 7, h => exact h
            | 8, h => exact h.later hb
            | m + 9, h => exact h
          · intro i o hi ho q x9 vals hX hdep hoth
            have t5 : q.tmps[5]? = some (.slice aO nO cO) := by rw [hoth 5 (by kernel_rfl)]; rfl
            have t7 : q.tmps[7]? = some (.pointer (some ⟨cb, 0, none⟩)) := by rw [hoth 7 (by kernel_rfl)]; rfl
            have t2 : q.tmps[2]? = some (.pointer (some ⟨tb, 0, none⟩)) := by rw [hoth 2 (by kernel_rfl)]; rfl
            match i, hi, ho with
            | 0, _, ho =>
              simp only [List.getElem?_cons_zero, Option.some.injEq] at ho
              subst ho
              unfold Oper.wp
              simp [execOp, go_sem, t5]
              exact came _ rfl (Below.refl _ _) rfl (fun h => absurd h (by decide))
            | 1, _, ho =>
              simp only [List.getElem?_cons_succ, List.getElem?_cons_zero, Option.some.injEq] at ho
              subst ho
              unfold Oper.wp
              simp [execOp, go_sem, t7]
              exact came _ rfl (Below.refl _ _) rfl (fun h => absurd h (by decide))
            | 2, _, ho =>
              simp only [List.getElem?_cons_succ, List.getElem?_cons_zero, Option.some.injEq] at ho
              subst ho
              obtain ⟨u1, e1⟩ := hdep ⟨1, .data⟩ (by simp) rfl _ 18 rfl rfl
              rw [show vals 1 = .pointer (some ⟨cb, 0, none⟩) from e1] at u1
              have c0 : x9.cell? ⟨cb, 0, none⟩ = some (.int .i64 3) := (hc.later hX).cellIs 0 rfl
              unfold Oper.wp
              simp [execOp, go_sem, u1, c0]
              exact came _ rfl (Below.refl _ _) rfl (fun h => absurd h (by decide))
            | 3, _, ho =>
              simp only [List.getElem?_cons_succ, List.getElem?_cons_zero, Option.some.injEq] at ho
              subst ho
              obtain ⟨u2, e2⟩ := hdep ⟨2, .data⟩ (by simp) rfl _ 19 rfl rfl
              rw [show vals 2 = .int .i64 3 from e2] at u2
              unfold Oper.wp
              simp [execOp, go_sem, u2, t2]
              exact came _ rfl (Below.refl _ _) rfl (fun h => absurd h (by decide))
            | 4, _, ho =>
              simp only [List.getElem?_cons_succ, List.getElem?_cons_zero, Option.some.injEq] at ho
              subst ho
              obtain ⟨u3, e3⟩ := hdep ⟨3, .data⟩ (by simp) rfl _ 20 rfl rfl
              rw [show vals 3 = .pointer (some ⟨tb, 3, none⟩) from e3] at u3
              have c0 : x9.cell? ⟨tb, 3, none⟩ = some (.int .i64 z) := (ht.later hX).cellIs 3 rfl
              unfold Oper.wp
              simp [execOp, go_sem, u3, c0]
              exact came _ rfl (Below.refl _ _) rfl (fun h => absurd h (by decide))
            | 5, _, ho =>
              simp only [List.getElem?_cons_succ, List.getElem?_cons_zero, Option.some.injEq] at ho
              subst ho
              unfold Oper.wp
              simp [execOp, go_sem, t7]
              exact came _ rfl (Below.refl _ _) rfl (fun h => absurd h (by decide))
            | 6, _, ho =>
              simp only [List.getElem?_cons_succ, List.getElem?_cons_zero, Option.some.injEq] at ho
              subst ho
              obtain ⟨u5, e5⟩ := hdep ⟨5, .data⟩ (by simp) rfl _ 22 rfl rfl
              rw [show vals 5 = .pointer (some ⟨cb, 1, none⟩) from e5] at u5
              exact opw_loadID _ rfl (by simp [Act.eval, u5]) ((g_id (off := 0) hc.in).later hX) (came _ rfl (Below.refl _ _) rfl (fun h => absurd h (by decide)))
            | 7, _, ho =>
              simp only [List.getElem?_cons_succ, List.getElem?_cons_zero, Option.some.injEq] at ho
              subst ho
              obtain ⟨u4, e4⟩ := hdep ⟨4, .data⟩ (by simp) rfl _ 21 rfl rfl
              rw [show vals 4 = .int .i64 z from e4] at u4
              obtain ⟨u6, e6⟩ := hdep ⟨6, .data⟩ (by simp) rfl _ 23 rfl rfl
              rw [show vals 6 = .agg #[.int .i64 ea, .int .i64 eb, .int .i64 ec] from e6] at u6
              unfold Oper.wp
              simp [execOp, go_sem, u4, u6]
              exact came _ rfl (Below.refl _ _) rfl (fun h => absurd h (by decide))
            | 8, _, ho =>
              simp only [List.getElem?_cons_succ, List.getElem?_cons_zero, Option.some.injEq] at ho
              subst ho
              obtain ⟨u7, e7⟩ := hdep ⟨7, .data⟩ (by simp) rfl _ 24 rfl rfl
              rw [show vals 7 = .agg #[.int .i64 z, .int .i64 ea, .int .i64 eb, .int .i64 ec] from e7] at u7
              unfold Oper.wp
              simp [execOp, go_sem, u7]
              exact came _ rfl (below_one _ _) ⟨x9.heap.size, rfl, so_g x9 ⟨z, ea, eb, ec⟩, by simp⟩ (fun h => absurd h (by decide))
            | m + 9, hi, _ => exact absurd hi (by omega)
          · intro vals x9 hX9 hR9 _
            obtain ⟨g9, q9, qs, qg⟩ : OnX ⟨z, ea, eb, ec⟩ (vals 8) x9 := hR9 8 (by decide)
            have r0 : vals 0 = .slice aO nO cO := hR9 0 (by decide)
            have hsz := hX9.size
            simp only [List.take, List.drop, putAll, r0, q9]
            rw [q9] at qs
            clear q9 r0 hR9
            simp only [List.setIfInBounds_toArray, List.set_cons_succ, List.set_cons_zero]
            go_wp2_with (at_builtin; refine wpL_appG (m := [⟨z, ea, eb, ec⟩]) rfl _ _ rfl rfl rfl (HO.out.1.later hX9) qs (by show _ + 1 ≤ _; have := HLn.out; omega) ?_; intro v3 w3 h3 hg3 hat3; obtain ⟨a3, c3, h3v, _⟩ := Rw.form h3; generalize List.length _ = n3 at h3v; subst h3v)
            have hB3 : Below w.heap.size w w3 := (hB.trans (hX9.mono hB.size)).grown hg3 (by have := hB.size; omega) (fun j hj => by have := HO.out.2 j hj; omega)
            go_roundw
            case rel =>
              have h9 := HT.out
              rw [show tT x y z 3 = z from rfl] at h9
              refine ⟨k + 1, by go_num, by omega, ⟨?_, fun j hj => ?_⟩, (ht.later hX9).grow hg3 (fun q9 => by have := HO.out.2 _ q9; omega), hB3⟩
              · show RwX _ _ _
                rw [h9]
                exact h3
              · rcases hat3 j hj with q | q
                · exact HO.out.2 j q
                · have := hB.size; have := ht.lt; omega
            case measure => simp [intOf]; omega
    · have hki : ¬ (k : Int) < (l.length : Int) := by omega
      obtain rfl : k = l.length := by omega
      rw [List.take_length] at hO
      have HR := hid_of' (And.intro hO hB)
      obtain ⟨a5, c5, rfl, _⟩ := Rw.form hO.1
      clear hO ht hB
      go_wp2
      go_ret
      exact ⟨_, rfl, ⟨HR.out.1.1, fun k hk => by have := HR.out.1.2 k hk; omega⟩, htb ▸ HR.out.2⟩
end Go.Proofs.YtgkbgojgpomcdaaDoor
