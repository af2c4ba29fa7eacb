
/-
  The document's One; barrowlaw11.alike.
-/
import Derived.Test.YtlkcjbmdeimocaaDoorCp3
namespace Go.Proofs.YtlkcjbmdeimocaaDoor
open Go.RowKit Go.Maps
set_option maxRecDepth 100000

set_option maxHeartbeats 1000000 in
theorem one_is (x y : Ac) (w : World) : Calls Tryd.prog 50 #[.agg (acv x), .agg (acv y)] w fun e w' => e = .returned (.bool (oneB x y)) ∧ Below w.heap.size w w' := by
  have r1 := acv_rep x
  have r2 := acv_num x
  have r3 := acv_rep y
  have r4 := acv_num y
  unfold oneB
  cases h1 : (x.rep == y.rep)
  · go_enter Tryd.func50, Tryd.ntmps50
    go_wp2
    go_ret
    exact ⟨rfl, below_two _ _ _⟩
  · cases h2 : (x.num == y.num)
    · go_enter Tryd.func50, Tryd.ntmps50
      go_wp2
      go_ret
      exact ⟨rfl, below_two _ _ _⟩
    · go_enter Tryd.func50, Tryd.ntmps50
      go_wp2
      go_ret
      exact ⟨rfl, below_two _ _ _⟩
theorem one_v {x y : Ac} {b : Bool} (hb : oneB x y = b) (w : World) : Calls Tryd.prog 50 #[.agg (acv x), .agg (acv y)] w fun e w' => e = .returned (.bool b) ∧ Below w.heap.size w w' := hb ▸ one_is x y w
set_option maxHeartbeats 8000000 in
theorem alike_any {w : World} {v : Value} {l : List Ac} (hl : SlC w v l) (hf : AFit l) (hn : l.length ≤ 1000) :
    Calls Tryd.prog 25 #[v] w fun e w' => ∃ r, e = .returned r ∧ OwnA r (alikeL l) w' ∧ NewB w r ∧ Below w.heap.size w w' := by
  obtain ⟨a9, c9, rfl⟩ := hl.form
  have H := hid_of' (And.intro hl hf)
  clear hl hf
  go_enter Tryd.func25, Tryd.ntmps25
  go_wp2
  go_loopw [3, 4, 5, 6] (fun s i _ _ wr => ∃ k : Nat, i = .int .i64 (k : Int) ∧ k ≤ l.length ∧ OwnA s ((alikeL l).take k) wr ∧ NewB w s ∧ Below w.heap.size w wr) (fun _ i _ _ _ => l.length - (intOf i).toNat)
  case atStart => exact ⟨0, rfl, by omega, by simpa using OwnA.nil _, newB_nil _, Below.refl _ _⟩
  case round =>
    rename World => wr
    obtain ⟨k, rfl, hk, hown, hnew, hB⟩ := hrel
    by_cases hlt : k < l.length
    · have hki : (k : Int) < (l.length : Int) := by omega
      obtain ⟨x, hx⟩ : ∃ x, l[k]? = some x := ⟨_, List.getElem?_eq_getElem hlt⟩
      have hxf := H.out.2.at hx
      obtain ⟨g, o, c2, hv, hg9⟩ := H.out.1.pos (by omega)
      simp only [Value.slice.injEq, true_and] at hv
      obtain ⟨rfl, rfl⟩ := hv
      have hin := (H.out.1.in H.out.2 hx).later hB
      obtain ⟨T, hT⟩ : ∃ T, (alikeL l).take k = T := ⟨_, rfl⟩
      have hTl : T.length = k := by rw [← hT, List.length_take]; unfold alikeL; rw [List.length_map]; omega
      have hTat : ∀ j z, j < k → l[j]? = some z → T[j]? = some (fstOne l z) := fun j z hj hz => by
        rw [← hT, List.getElem?_take, if_pos hj]; unfold alikeL; rw [List.getElem?_map, hz]; rfl
      rw [hT] at hown
      obtain ⟨ua, uc, hu3, _, _⟩ := hown.form
      rw [hTl] at hu3
      subst hu3
      have HT := hid_of' (And.intro hT (And.intro hTl hTat))
      have HO := hid_of' (And.intro hown (And.intro hnew (And.intro hB hx)))
      clear hT hTl hTat hown hnew hB hx
      go_upto_region 6 with (first | (refine wpL_loadA rfl _ rfl rfl hxf hin ?_) | (refine wpL_storeAr (p := x) (q := ac0) rfl _ _ rfl rfl rfl hxf ac0_fit (row_new wr (acv ac0) _) ?_))
      obtain ⟨hb1, hb2⟩ := boxed_act wr (x := x)
      rw [show (Obj.cells #[Value.int .i64 0, .int .i64 0, .int .i32 0, .int .i64 0, .int .i64 0, .int .i64 0, .int .i64 0, .int .i64 0, .int .i64 0, .int .i64 0, .int .i64 0, .int .i64 0, .int .i64 0] 48) = Obj.cells (acv ac0) 48 from rfl]
      generalize (wr.alloc (.cells (acv ac0) 48)).setRow wr.heap.size (acv x) = w2 at hb1 hb2 ⊢
      have hxsz := hb1.lt
      obtain ⟨xb, hxb⟩ : ∃ xb, wr.heap.size = xb := ⟨_, rfl⟩
      have hs0 := HO.out.2.2.1.size
      have hwx : w.heap.size ≤ xb := by omega
      have hbel2 := bgo HO.out.2.2.1 hb2
      have hTow := HO.out.1.later hb2
      have hTlt : ∀ k, Value.ownBlock (.slice ua k uc) = some k → True := fun _ _ => trivial
      have hTb := HO.out.1.lt
      rw [hxb] at hb1 hTb ⊢
      have H2 := hid_of' (And.intro hTow (And.intro hTb hbel2))
      clear hTow hTb hbel2 hb2 hxb hTlt
      have hk0 : 0 ≤ (k : Int) := by omega
      go_wp2
      go_loopg [6] k (fun n jv wq => ∃ (j : Int) (y : Ac), jv = .int .i64 j ∧ n = (j + 1).toNat ∧ -1 ≤ j ∧ j < k ∧ RowAt xb (acv y) 48 wq ∧ y.Fit ∧ Ch (fun b => b = xb) w2 wq ∧ (y = fstOne l x ∨ (y = x ∧ ∀ (i : Nat) z, j < i → i < k → l[i]? = some z → ¬ z.one x)))
      case atStart => exact ⟨(k : Int) - 1, x, by go_num, by omega, by omega, by omega, hb1, hxf, Ch.refl _ _, .inr ⟨rfl, fun i z h1 h2 => by omega⟩⟩
      case round =>
        rename World => wq
        obtain ⟨j, y, rfl, hnj, hj1, hjk, hbx, hyf, hCq, hy⟩ := hrel
        by_cases hj0 : 0 ≤ j
        · obtain ⟨jn, rfl⟩ := Int.eq_ofNat_of_zero_le hj0
          have hjn : jn < k := by omega
          have hjl : (jn : Int) < (l.length : Int) := by omega
          obtain ⟨z, hz⟩ : ∃ z, l[jn]? = some z := ⟨_, List.getElem?_eq_getElem (by omega)⟩
          have hzf := H.out.2.at hz
          have hlx := ((H.out.1.in H.out.2 HO.out.2.2.2).later H2.out.2.2).ch hCq (by omega)
          have hlz := ((H.out.1.in H.out.2 hz).later H2.out.2.2).ch hCq (by omega)
          have hz1 := HT.out.2.2 jn z hjn hz
          have hTq := H2.out.1.ch hCq (fun b hb e => by have := H2.out.2.1 b hb; omega)
          have hffz : (fstOne l z).Fit := H.out.2 _ (fst_mem (List.mem_of_getElem? hz))
          have hkj : (jn : Int) < (k : Int) := by omega
          cases hone : oneB z x
          · have HN : Hid ((y = fstOne l x ∨ (y = x ∧ ∀ (i : Nat) z, (jn : Int) - 1 < i → i < k → l[i]? = some z → ¬ z.one x)) ∧ Ch (fun b => b = xb) w2 wq ∧ (y.Fit ∧ hnj = hnj)) := ⟨hy.elim .inl (fun q => .inr ⟨q.1, fun i z' h1 h2 h3 => by
              by_cases e : i = jn
              · subst e
                rw [hz] at h3; cases h3
                intro ho
                rw [oneB_iff.2 ho] at hone
                cases hone
              · exact q.2 i z' (by omega) h2 h3⟩), hCq, hyf, rfl⟩
            clear hy hz hz1 hTq
            have hB := Below.refl wq.heap.size wq
            go_upto_region 9 with fail
            refine wp_region_cls (by kernel_rfl) (by kernel_rfl) ?_
            repeat (first | go_big_quiet_skip | (go_big_quiet_want; first | (refine quiet_act _ rfl rfl hzf hlz.cls ?_; simp only [Act.put, List.setIfInBounds_toArray, List.set_cons_succ, List.set_cons_zero]; go_big_quiet_on) | (refine quiet_act _ rfl rfl hxf hlx.cls ?_; simp only [Act.put, List.setIfInBounds_toArray, List.set_cons_succ, List.set_cons_zero]; go_big_quiet_on) | (go_big_quiet_op; first | go_big_quiet_on | go_big_quiet_call ((go_at_call 50; exact cls_of (one_v hone _))))))
            refine wpQuiet_nil ?_
            rintro w1 ⟨s1, e1⟩
            have hb1 := wOf_below s1
            rw [← e1] at hb1
            clear e1 s1
            replace hlz := hlz.later hb1
            replace hlx := hlx.later hb1
            replace hbx := hbx.later hb1
            replace hB := bgo hB hb1
            clear hb1
            go_wp2
            go_roundg jn
            case measure => omega
            case rel => exact ⟨(jn : Int) - 1, y, by go_num, by omega, by omega, by omega, hbx, hyf, HN.out.2.1.later hB, HN.out.1⟩
          · have hox := oneB_iff.1 hone
            have hfe : fstOne l z = fstOne l x := fst_congr hox (List.mem_of_getElem? hz) (List.mem_of_getElem? HO.out.2.2.2)
            rw [hfe] at hz1 hffz
            have HN := hid_of' (And.intro hz1 (And.intro hTq hCq))
            clear hy hz hz1 hTq hfe hox
            have hB := Below.refl wq.heap.size wq
            go_upto_region 9 with fail
            refine wp_region_cls (by kernel_rfl) (by kernel_rfl) ?_
            repeat (first | go_big_quiet_skip | (go_big_quiet_want; first | (refine quiet_act _ rfl rfl hzf hlz.cls ?_; simp only [Act.put, List.setIfInBounds_toArray, List.set_cons_succ, List.set_cons_zero]; go_big_quiet_on) | (refine quiet_act _ rfl rfl hxf hlx.cls ?_; simp only [Act.put, List.setIfInBounds_toArray, List.set_cons_succ, List.set_cons_zero]; go_big_quiet_on) | (go_big_quiet_op; first | go_big_quiet_on | go_big_quiet_call ((go_at_call 50; exact cls_of (one_v hone _))))))
            refine wpQuiet_nil ?_
            rintro w1 ⟨s1, e1⟩
            have hb1 := wOf_below s1
            rw [← e1] at hb1
            clear e1 s1
            replace hlz := hlz.later hb1
            replace hlx := hlx.later hb1
            replace hbx := hbx.later hb1
            replace hB := bgo hB hb1
            clear hb1
            have hT1 := HN.out.2.1.later hB
            have hTl := HT.out.2.1
            obtain ⟨g3, o3, c3, hv3, _⟩ := hT1.sl.pos (by omega)
            rw [hTl] at hv3
            simp only [Value.slice.injEq, true_and] at hv3
            obtain ⟨rfl, rfl⟩ := hv3
            have hT2 := hT1.sl
            rw [← hTl] at hT2
            have hin3 := hT2.in hT1.2 HN.out.1
            clear hT1 hT2 hTl
            generalize hfx : fstOne l x = fx at hin3 hffz HN ⊢
            have HFX := hid_of' hfx
            clear hfx
            go_upto_region 8 with (first | (refine wpL_loadA rfl _ rfl rfl hffz hin3 ?_) | (refine wpL_storeAr (p := fx) (q := y) rfl _ _ rfl rfl rfl hffz hyf hbx ?_))
            have HZ := hid_of' (And.intro (hbx.put (acv fx)) (Ch.row (S := fun b => b = xb) (HN.out.2.2.later hB) (.inl rfl) (acv fx)))
            generalize w1.setRow xb (acv fx) = w3 at HZ ⊢
            clear hbx
            go_wp2
            go_roundg jn
            case measure => omega
            case rel => exact ⟨(jn : Int) - 1, fx, by go_num, by omega, by omega, by omega, HZ.out.1, hffz, HZ.out.2, .inl HFX.out.symm⟩
        · have hj00 : j = -1 := by omega
          subst hj00
          have hyy : y = fstOne l x := hy.elim id (fun q => by rw [q.1]; exact (fst_new HO.out.2.2.2 (fun j z h1 h2 => q.2 j z (by omega) h1 h2)).symm)
          have hTq := H2.out.1.ch hCq (fun b hb e => by have := H2.out.2.1 b hb; omega)
          have hbq : Below w.heap.size w wq := Ch.none ((Ch.of (S := fun b => w.heap.size ≤ b) H2.out.2.2).go hCq (fun s q => .inl (by omega))) (fun s hs q => by omega)
          have hln : T.length + [y].length ≤ 1000000 := by rw [HT.out.2.1]; simp only [List.length_singleton]; omega
          have HN := hid_of' (And.intro hyy (And.intro hTq hbq))
          clear hy hyy hTq hbq
          go_upto_region 4 with (first | (refine wpL_loadA rfl _ rfl rfl hyf hbx.in ?_) | (refine wpList_plain rfl fun _ hK => opw_oneA (p := y) _ rfl rfl hyf ?_; refine hK _ _ ?_) | (at_builtin; refine wpL_appA rfl _ _ rfl rfl rfl (HN.out.2.1.later (below_one wq (.cells (acv y) 48))) (slC_new wq y 1) (AFit.one hyf) hln ?_; intro v5 w5 q1 q2 q3))
          have hB3 := bgo HN.out.2.2 (below_one wq (.cells (acv y) 48))
          have hs3 := hB3.size
          have hst : (alikeL l).take (k + 1) = T ++ [y] := by
            rw [← HT.out.1, List.take_add_one]
            congr 1
            unfold alikeL
            rw [List.getElem?_map, HO.out.2.2.2, HN.out.1]; rfl
          have HZ := hid_of' (And.intro q1 (And.intro (newB_at HO.out.2.1 q3 hs3) (And.intro (newB_below HO.out.2.1 hB3 q2) hst)))
          clear q1 q2 q3 hB3 hst
          go_wp2
          go_roundw
          case rel => exact ⟨k + 1, by go_num, by omega, by rw [HZ.out.2.2.2]; exact HZ.out.1, HZ.out.2.1, HZ.out.2.2.1⟩
          case measure => simp [intOf]; omega
    · have hki : ¬ (k : Int) < (l.length : Int) := by omega
      have htk : (alikeL l).take k = alikeL l := List.take_of_length_le (by unfold alikeL; rw [List.length_map]; omega)
      rw [htk] at hown
      obtain ⟨ua, uc, hu3, _, _⟩ := hown.form
      subst hu3
      have HZ := hid_of' (And.intro hown (And.intro hnew hB))
      clear hown hnew hB htk
      generalize hal : alikeL l = al at HZ ⊢
      have HAL := hid_of' hal
      clear hal
      go_wp2
      go_ret
      exact ⟨_, rfl, by rw [HAL.out]; exact HZ.out.1, HZ.out.2.1, HZ.out.2.2⟩
end Go.Proofs.YtlkcjbmdeimocaaDoor
