
/-
  barrowkeep for acts: act, Acts, LendActs, IntactActs, SpoilActs.
-/
import Derived.Test.YtlkcjbmdeimocaaDoorCa7
namespace Go.Proofs.YtlkcjbmdeimocaaDoor
open Go.RowKit Go.Maps
set_option maxRecDepth 100000

/-- A mark. -/
def mkA (k : Int) : Ac := ⟨0, 0, 0, 0, -7 - k, ck0⟩
def marksA : List Ac := [mkA 0, mkA 1, mkA 2, mkA 3]
theorem mkA_fit {k : Int} (h0 : 0 ≤ k) (h1 : k ≤ 1000) : (mkA k).Fit := ⟨ck0_ck, by
  show -9223372036854775808 ≤ -7 - k ∧ -7 - k ≤ 9223372036854775807
  omega⟩
theorem results_act1 {fn : Func} {p : Tmp} {tmps : Array Value} {w : World} {g : Nat} {x : Ac} (h : fn.results = #[.cell p 48]) (hp : tmps.getD p undef = .pointer (some ⟨g, 0, none⟩)) (hx : x.Fit) (hg : RowAt g (acv x) 48 w) :
    (results fn tmps).run Tryd.prog w = .ok (.agg (acv x)) w := by
  have hp' : tmps[p]?.getD undef = .pointer (some ⟨g, 0, none⟩) := by simpa using hp
  simp [results, h, hp', asAddr, run_loadVar_row w g _ _ _ _ _ hg Tryd.underlying48 rfl (a_size hx)]
set_option maxHeartbeats 1000000 in
theorem act_is (k : Int) (h0 : 0 ≤ k) (h1 : k ≤ 1000) (w : World) : Calls Tryd.prog 43 #[.int .i64 k] w fun r w' => r = .returned (.agg (acv (mkA k))) ∧ Below w.heap.size w w' := by
  have hN := row_new w (acv (mkA k)) 48
  have hx := mkA_fit h0 h1
  go_enter Tryd.func43, Tryd.ntmps43
  go_wp2
  exact bodyPost_ret (v := .agg (acv (mkA k))) (results_act1 (fn := Tryd.f43) (p := 2) rfl rfl hx hN) rfl ⟨rfl, below_one w _⟩
theorem marksA_fit : AFit marksA := fun x hx => by
  simp only [marksA, List.mem_cons, List.not_mem_nil, or_false] at hx
  rcases hx with rfl | rfl | rfl | rfl <;> exact mkA_fit (by decide) (by decide)
set_option maxHeartbeats 4000000 in
/-- Two rows of the same acts are alike. -/
theorem acts_same {w : World} {u v : Value} {l : List Ac} (hu : SlC w u l) (hv : SlC w v l) (hf : AFit l) (hn : l.length ≤ 1000000) :
    Calls Tryd.prog 19 #[u, v] w fun e w' => e = .returned (.bool true) ∧ Below w.heap.size w w' := by
  obtain ⟨a, c, rfl⟩ := hu.form
  obtain ⟨a', c', rfl⟩ := hv.form
  have H := hid_of' (And.intro hu (And.intro hv hf))
  clear hu hv hf
  go_enter Tryd.func19, Tryd.ntmps19
  go_wp2
  go_loopw [5] (fun i wr => ∃ k : Nat, i = .int .i64 (k : Int) ∧ k ≤ l.length ∧ Below w.heap.size w wr) (fun i _ => l.length - (intOf i).toNat)
  case atStart => exact ⟨0, rfl, by omega, Below.refl _ _⟩
  case round =>
    rename World => wr
    obtain ⟨k, rfl, hk, hB⟩ := hrel
    by_cases hlt : k < l.length
    · have hki : (k : Int) < (l.length : Int) := by omega
      obtain ⟨x, hx⟩ : ∃ x, l[k]? = some x := ⟨_, List.getElem?_eq_getElem hlt⟩
      have hxf := H.out.2.2.at hx
      obtain ⟨g, o, c2, hv, _⟩ := H.out.1.pos (by omega)
      obtain ⟨g', o', c2', hv', _⟩ := H.out.2.1.pos (by omega)
      simp only [Value.slice.injEq, true_and] at hv hv'
      obtain ⟨rfl, rfl⟩ := hv
      obtain ⟨rfl, rfl⟩ := hv'
      have h1 := (H.out.1.in H.out.2.2 hx).later hB
      have h2 := (H.out.2.1.in H.out.2.2 hx).later hB
      have hq := eqIn_act hxf hxf
      have hs := aeq_self x
      have hg := act_guard
      go_upto_region 6 with fail
      refine wp_region_cls (by kernel_rfl) (by kernel_rfl) ?_
      repeat (first | go_big_quiet_skip | (go_big_quiet_want; first | (refine quiet_act _ rfl rfl hxf h1.cls ?_; simp only [Act.put, List.setIfInBounds_toArray, List.set_cons_succ, List.set_cons_zero]; go_big_quiet_on) | (refine quiet_act _ rfl rfl hxf h2.cls ?_; simp only [Act.put, List.setIfInBounds_toArray, List.set_cons_succ, List.set_cons_zero]; go_big_quiet_on) | (go_big_quiet_op; first | go_big_quiet_on | go_big_quiet_call ((fail)))))
      refine wpQuiet_nil ?_
      rintro w1 ⟨s1, e1⟩
      have hb1 := wOf_below s1
      rw [← e1] at hb1
      clear e1 s1
      replace hB := bgo hB hb1
      clear hb1
      go_wp2
      go_roundw
      case rel => exact ⟨k + 1, by go_num, by omega, hB⟩
      case measure => simp [intOf]; omega
    · have hki : ¬ (k : Int) < (l.length : Int) := by omega
      go_wp2
      go_ret
      exact ⟨rfl, hB⟩
theorem own_emptyA (w : World) : OwnA (.slice (some ⟨w.heap.size, 0, none⟩) 0 0) [] (w.alloc (.cells #[] 48)) :=
  ⟨⟨rfl, .inr ⟨w.heap.size, 0, #[], rfl, heap_alloc_last w _, Nat.le_refl _, Nat.zero_le _, by simp, rfl⟩⟩, AFit.nil⟩
theorem marksA_next (l : List Ac) (k : Nat) (hk : k < 4) : (l ++ marksA.take k) ++ [mkA (k : Int)] = l ++ marksA.take (k + 1) := by
  rw [List.append_assoc]
  congr 1
  match k, hk with
  | 0, _ => rfl
  | 1, _ => rfl
  | 2, _ => rfl
  | 3, _ => rfl
/-- A row of one's own all of whose blocks are new since w. -/
def NewB (w : World) (v : Value) : Prop := ∀ k, v.ownBlock = some k → w.heap.size ≤ k
set_option maxHeartbeats 4000000 in
/-- A copy, with marks in its spare room. -/
theorem lendA_ok {w : World} {u : Value} {l : List Ac} (hu : SlC w u l) (hf : AFit l) (hn : l.length ≤ 1000) :
    Calls Tryd.prog 16 #[u] w fun e w' => ∃ g c, e = .returned (.slice (some ⟨g, 0, none⟩) l.length c) ∧ OwnA (.slice (some ⟨g, 0, none⟩) (l.length + 4) c) (l ++ marksA) w' ∧ w.heap.size ≤ g ∧ Below w.heap.size w w' := by
  obtain ⟨a', c', rfl⟩ := hu.form
  have HU := hid_of' (And.intro (hu.later (below_one w (.cells #[] 48))) hf)
  clear hu hf
  go_enter Tryd.func16, Tryd.ntmps16
  go_wp2_with (at_builtin; refine wpL_appA rfl _ _ rfl rfl rfl (own_emptyA w) HU.out.1 HU.out.2 (by simp; omega) ?_; intro v' w1 ho hg ha)
  have hB0 : Below w.heap.size w w1 := Ch.none ((Ch.of (S := fun k => w.heap.size ≤ k) (below_one w (.cells #[] 48))).grown hg (fun k hk => by cases hk; exact .inl (Nat.le_refl _))) (fun s hs q => by omega)
  have hn0 : NewB w v' := fun k hk => (ha k hk).elim (fun q => by cases q; exact Nat.le_refl _) (fun q => by rw [World.size_alloc] at q; omega)
  rw [List.nil_append] at ho
  have HF := hid_of' HU.out.2
  clear hg HU ha
  go_loopw [3, 4] (fun s i wr => ∃ k : Nat, i = .int .i64 (k : Int) ∧ k ≤ 4 ∧ OwnA s (l ++ marksA.take k) wr ∧ NewB w s ∧ Below w.heap.size w wr) (fun _ i _ => 4 - (intOf i).toNat)
  case atStart => exact ⟨0, rfl, by omega, by simpa [marksA] using ho, hn0, hB0⟩
  case round =>
    rename World => wr
    obtain ⟨k, rfl, hk, hown, hnew, hB⟩ := hrel
    by_cases hlt : k < 4
    · have hki : (k : Int) < 4 := by omega
      have HM := hid_of' (act_is (k : Int) (by omega) (by omega) wr)
      have HO := hid_of' (And.intro hown (And.intro hnew hB))
      have hmf := mkA_fit (k := (k : Int)) (by omega) (by omega)
      have hlen : (l ++ marksA.take k).length + [mkA (k : Int)].length ≤ 1000000 := by simp only [List.length_append, List.length_take, List.length_cons, List.length_nil]; omega
      clear hown hnew hB
      go_wp2_with (first | (go_at_call 43; refine HM.out.mono ?_; rintro r w2 ⟨rfl, hb2⟩; clear HM) | (refine wpList_plain rfl fun _ hK => opw_oneA (p := mkA (k : Int)) _ rfl rfl hmf ?_; refine hK _ _ ?_) | (at_builtin; refine wpL_appA rfl _ _ rfl rfl rfl ((HO.out.1.later hb2).later (below_one w2 (.cells (acv (mkA (k : Int))) 48))) (slC_new w2 (mkA (k : Int)) 1) (AFit.one hmf) hlen ?_; intro v3 w3 ho3 hg3 ha3))
      go_roundw
      case rel =>
        have hs := HO.out.2.2.size
        have hs2 := hb2.size
        exact ⟨k + 1, by go_num, by omega, by rw [← marksA_next l k hlt]; exact ho3, fun j hj => (ha3 j hj).elim (HO.out.2.1 j) (fun q => by rw [World.size_alloc] at q; omega), Ch.none ((Ch.of (S := fun k => w.heap.size ≤ k) (bgo (bgo HO.out.2.2 hb2) (below_one w2 (.cells (acv (mkA (k : Int))) 48)))).grown hg3 (fun j hj => .inl (HO.out.2.1 j hj))) (fun s hs q => by omega)⟩
      case measure => simp [intOf]; omega
    · obtain rfl : k = 4 := by omega
      have e4 : (l ++ marksA.take 4).length = l.length + 4 := by simp [marksA]
      obtain ⟨g, c, hg1, hlc⟩ : ∃ g c, u3 = .slice (some ⟨g, 0, none⟩) (l.length + 4) c ∧ l.length + 4 ≤ c := by
        rcases hown.1.2 with ⟨_, h0⟩ | ⟨g, cap, cur, h1, _, h3, _⟩
        · rw [e4] at h0; omega
        · rw [e4] at h1 h3; exact ⟨g, cap, h1, h3⟩
      subst hg1
      have e5 : (l.length : Int) ≤ (c : Int) := by omega
      have e6 : 0 ≤ (l.length : Int) := by omega
      have e7 : l.length ≤ c := by omega
      have HO := hid_of' (And.intro hown (And.intro hnew hB))
      clear hown hnew hB hlc e4
      go_wp2
      go_ret
      exact ⟨g, c, rfl, HO.out.1, HO.out.2.1 g rfl, HO.out.2.2⟩
end Go.Proofs.YtlkcjbmdeimocaaDoor
