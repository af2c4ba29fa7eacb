
/-
  causal.Missing and the document's.
-/
import Derived.Test.YtlkcjbmdeimocaaDoorCa10
namespace Go.Proofs.YtlkcjbmdeimocaaDoor
open Go.RowKit Go.Maps
set_option maxRecDepth 100000

set_option maxHeartbeats 400000 in
theorem refHas_any (a : List Int) (r n : Int) (w : World) (ha : a.length = 8) :
    Calls Tryd.prog 45 #[.agg (cv a), .int .i64 r, .int .i64 n] w fun e w' => e = .returned (.bool (hasC a r n)) ∧ Below w.heap.size w w' := by
  by_cases hr : 0 ≤ r ∧ r < 8
  · obtain ⟨k, rfl⟩ := Int.eq_ofNat_of_zero_le hr.1
    obtain ⟨h0, h8⟩ := hr
    have c1 := cv_get (a := a) (k := k) (by omega)
    have HV : Hid (hasC a (k : Int) n = (decide (1 ≤ n) && decide (n ≤ en a k))) := by simp [Hid, hasC, h8]
    by_cases hn : 1 ≤ n
    · go_enter Tryd.func45, Tryd.ntmps45
      go_wp2
      go_ret
      exact ⟨by rw [HV.out]; simp [hn], below_one _ _⟩
    · have hn' : decide (1 ≤ n) = false := by simpa using hn
      go_enter Tryd.func45, Tryd.ntmps45
      go_wp2
      go_ret
      exact ⟨by rw [HV.out]; simp [hn'], below_one _ _⟩
  · have HV : Hid (hasC a r n = false) := by simp only [Hid, hasC, decide_eq_false hr, Bool.false_and]
    by_cases hneg : 0 ≤ r
    · have h8 : ¬ r < 8 := by omega
      go_enter Tryd.func45, Tryd.ntmps45
      go_wp2
      go_ret
      exact ⟨by rw [HV.out]; rfl, below_one _ _⟩
    · have h0 : decide (0 ≤ r) = false := by simpa using hneg
      go_enter Tryd.func45, Tryd.ntmps45
      go_wp2
      go_ret
      exact ⟨by rw [HV.out]; rfl, below_one _ _⟩

theorem refHas_is {a : List Int} {r n : Int} {v : Bool} (hv : hasC a r n = v) (w : World) (ha : a.length = 8) :
    Calls Tryd.prog 45 #[.agg (cv a), .int .i64 r, .int .i64 n] w fun e w' => e = .returned (.bool v) ∧ Below w.heap.size w w' := hv ▸ refHas_any a r n w ha
/-- Missing. -/
def misC (h : List Int) (most : Int) : List Ac → List Ac → List Ac
  | acc, [] => acc
  | acc, x :: l => if most ≤ (acc.length : Int) then acc else if hasA h x = true then misC h most acc l else misC h most (acc ++ [x]) l
theorem drop_at {l : List Ac} {k : Nat} {x : Ac} (hx : l[k]? = some x) : l.drop k = x :: l.drop (k + 1) := by
  have hk := (List.getElem?_eq_some_iff.1 hx).1
  rw [show x = l[k] from (Option.some.inj ((List.getElem?_eq_getElem hk).symm.trans hx)).symm, List.getElem_cons_drop hk]
theorem misC_full {h : List Int} {most : Int} {acc l : List Ac} (hm : most ≤ (acc.length : Int)) : misC h most acc l = acc := by
  cases l with
  | nil => rfl
  | cons x l => simp [misC, hm]
/-- What Missing leaves. -/
def MisQ (h : List Int) (most : Int) (l : List Ac) (w : World) (e : Ending) (w' : World) : Prop :=
  ∃ r, e = .returned r ∧ OwnA r (misC h most [] l) w' ∧ NewB w r ∧ Below w.heap.size w w'
theorem newB_at {w : World} {v v' : Value} (h : NewB w v) {x : World} (ha : At' x v v') (hs : w.heap.size ≤ x.heap.size) : NewB w v' := fun k hk => (ha k hk).elim (h k) (fun q => by omega)
theorem newB_below {w x x' : World} {v : Value} (h : NewB w v) (hb : Below w.heap.size w x) (hg : x.grownBy x' v.ownBlock) : Below w.heap.size w x' :=
  Ch.none ((Ch.of (S := fun k => w.heap.size ≤ k) hb).grown hg (fun j hj => .inl (h j hj))) (fun s hs q => by omega)
theorem newB_nil (w : World) : NewB w (.slice none 0 0) := fun k hk => by cases hk
theorem AFit.misC {h : List Int} {most : Int} : ∀ {l acc : List Ac}, AFit acc → AFit l → AFit (misC h most acc l)
  | [], acc, ha, _ => ha
  | x :: l, acc, ha, hl => by
    unfold Go.Proofs.YtlkcjbmdeimocaaDoor.misC
    split
    · exact ha
    · split
      · exact AFit.misC ha hl.tail
      · exact AFit.misC (ha.app (AFit.one hl.head)) hl.tail
set_option maxHeartbeats 4000000 in
theorem missing_any {w : World} {v : Value} {l : List Ac} (hl : SlC w v l) (hf : AFit l) {h : List Int} (ha : Ck h) (most : Int) (hn : l.length ≤ 1000) :
    Calls Tryd.prog 17 #[v, .agg (cv h), .int .i64 most] w (MisQ h most l w) := by
  obtain ⟨a9, c9, rfl⟩ := hl.form
  have hB0 := below_one w (.cells (cv h) 44)
  have H := hid_of' (And.intro (CkAt.new w ha.1) (And.intro (hl.later hB0) (And.intro hf hB0)))
  clear hl hf hB0
  go_enter Tryd.func17, Tryd.ntmps17
  go_upto_region 1 with fail
  generalize w.alloc (.cells (cv h) 44) = W at H ⊢
  go_wp2
  go_loopw [7, 9, 12] (fun s _ i wr => ∃ (k : Nat) (acc : List Ac), i = .int .i64 (k : Int) ∧ k ≤ l.length ∧ OwnA s acc wr ∧ NewB W s ∧ Below W.heap.size W wr ∧ misC h most acc (l.drop k) = misC h most [] l ∧ acc.length ≤ k) (fun _ _ i _ => l.length - (intOf i).toNat)
  case atStart => exact ⟨0, [], rfl, by omega, OwnA.nil _, newB_nil _, Below.refl _ _, rfl, by simp⟩
  case round =>
    rename World => wr
    obtain ⟨k, acc, rfl, hk, hown, hnew, hB, hm, hak⟩ := hrel
    have hs0 := H.out.2.2.2.size
    have hNB : NewB w u7 := fun j hj => Nat.le_trans hs0 (hnew j hj)
    obtain ⟨ua, uc, hu7, _, _⟩ := hown.form
    subst hu7
    by_cases hlt : k < l.length
    · have hki : (k : Int) < (l.length : Int) := by omega
      obtain ⟨x, hx⟩ : ∃ x, l[k]? = some x := ⟨_, List.getElem?_eq_getElem hlt⟩
      have hxf := H.out.2.2.1.at hx
      obtain ⟨g, o, c2, hv, _⟩ := H.out.2.1.pos (by omega)
      simp only [Value.slice.injEq, true_and] at hv
      obtain ⟨rfl, rfl⟩ := hv
      have hin := (H.out.2.1.in H.out.2.2.1 hx).later hB
      rw [drop_at hx] at hm
      have HIN := hid_of' (And.intro hin (And.intro (H.out.1.later hB) (And.intro hown (And.intro hnew (And.intro hB (And.intro hm hNB))))))
      clear hin hown hnew hB hm hNB
      go_upto_region 5 with (first | (refine wpL_loadA rfl _ rfl rfl hxf HIN.out.1 ?_) | (refine wpL_storeAr (p := x) (q := ac0) rfl _ _ rfl rfl rfl hxf ac0_fit (row_new wr (acv ac0) _) ?_))
      obtain ⟨hb1, hb2⟩ := boxed_act wr (x := x)
      rw [show (Obj.cells #[Value.int .i64 0, .int .i64 0, .int .i32 0, .int .i64 0, .int .i64 0, .int .i64 0, .int .i64 0, .int .i64 0, .int .i64 0, .int .i64 0, .int .i64 0, .int .i64 0, .int .i64 0] 48) = Obj.cells (acv ac0) 48 from rfl]
      generalize (wr.alloc (.cells (acv ac0) 48)).setRow wr.heap.size (acv x) = w2 at hb1 hb2 ⊢
      by_cases hfull : most ≤ (acc.length : Int)
      · go_wp2
        go_ret
        have hmm := HIN.out.2.2.2.2.2.1
        rw [misC_full hfull] at hmm
        exact ⟨_, rfl, by rw [← hmm]; exact HIN.out.2.2.1.later hb2, HIN.out.2.2.2.2.2.2, bgo (bgo H.out.2.2.2 HIN.out.2.2.2.2.1) hb2⟩
      · have hck2 := HIN.out.2.1.later hb2
        cases hha : hasA h x
        · have HH := hid_of' (hasA_is hha w2 ha.1)
          have hm2 : misC h most (acc ++ [x]) (l.drop (k + 1)) = misC h most [] l := by
            have := HIN.out.2.2.2.2.2.1
            rw [misC, if_neg hfull, if_neg (by rw [hha]; decide)] at this
            exact this
          have HM2 := hid_of' hm2
          have hln : acc.length + [x].length ≤ 1000000 := by simp; omega
          clear hm2
          go_upto_region 8 with (first | (refine wpL_load rfl _ rfl rfl hck2 ?_) | (go_at_call 44; refine HH.out.mono ?_; rintro e w3 ⟨rfl, hb3⟩; clear HH) | (refine wpL_loadA rfl _ rfl rfl hxf hb1.in ?_) | (refine wpL_loadA rfl _ rfl rfl hxf (hb1.later hb3).in ?_) | (refine wpList_plain rfl fun _ hK => opw_oneA (p := x) _ rfl rfl hxf ?_; refine hK _ _ ?_) | (at_builtin; refine wpL_appA rfl _ _ rfl rfl rfl (((HIN.out.2.2.1.later hb2).later hb3).later (below_one w3 (.cells (acv x) 48))) (slC_new w3 x 1) (AFit.one hxf) hln ?_; intro v5 w5 q1 q2 q3))
          have hB3 := bgo (bgo (bgo HIN.out.2.2.2.2.1 hb2) hb3) (below_one w3 (.cells (acv x) 48))
          have hs3 := hB3.size
          have HZ := hid_of' (And.intro q1 (And.intro (newB_at HIN.out.2.2.2.1 q3 hs3) (newB_below HIN.out.2.2.2.1 hB3 q2)))
          clear q1 q2 q3 hB3
          go_wp2
          go_roundw
          case rel => exact ⟨k + 1, acc ++ [x], by go_num, by omega, HZ.out.1, HZ.out.2.1, HZ.out.2.2, HM2.out, by simp; omega⟩
          case measure => simp [intOf]; omega
        · have HH := hid_of' (hasA_is hha w2 ha.1)
          have hm2 : misC h most acc (l.drop (k + 1)) = misC h most [] l := by
            have := HIN.out.2.2.2.2.2.1
            rw [misC, if_neg hfull, if_pos hha] at this
            exact this
          have HM2 := hid_of' hm2
          clear hm2
          go_wp2_with (first | (refine wpL_load rfl _ rfl rfl hck2 ?_) | (go_at_call 44; refine HH.out.mono ?_; rintro e w3 ⟨rfl, hb3⟩; clear HH) | (refine wpL_loadA rfl _ rfl rfl hxf hb1.in ?_))
          go_roundw
          case rel => exact ⟨k + 1, acc, by go_num, by omega, (HIN.out.2.2.1.later hb2).later hb3, HIN.out.2.2.2.1, bgo (bgo HIN.out.2.2.2.2.1 hb2) hb3, HM2.out, by omega⟩
          case measure => simp [intOf]; omega
    · have hki : ¬ (k : Int) < (l.length : Int) := by omega
      have hm0 : acc = misC h most [] l := by rw [← hm, List.drop_of_length_le (by omega)]; rfl
      have HZ := hid_of' (And.intro hown (And.intro hNB (And.intro (bgo H.out.2.2.2 hB) hm0)))
      clear hown hnew hB hm hNB hm0
      go_wp2
      go_ret
      exact ⟨_, rfl, by rw [← HZ.out.2.2.2]; exact HZ.out.1, HZ.out.2.1, HZ.out.2.2.1⟩
end Go.Proofs.YtlkcjbmdeimocaaDoor
