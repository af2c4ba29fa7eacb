
/-
  barrowkeep for acts: act, Acts, LendActs, IntactActs, SpoilActs. barrowkeep.IntactActs, SpoilActs; barrowlaw11.cut; causal.Missing and the document's.
-/
import Derived.Test.YtlgdaaofpjpobaaDoorZca21
namespace Go.Proofs.YtlgdaaofpjpobaaDoor
open Go.RowKit Go.Maps
set_option maxRecDepth 100000

/-- A mark. -/
def mkA (k : Int) : Ac := ⟨0, 0, 0, 0, -7 - k, ck0⟩
def marksA : List Ac := [mkA 0, mkA 1, mkA 2, mkA 3]
theorem mkA_fit {k : Int} (h0 : 0 ≤ k) (h1 : k ≤ 1000) : (mkA k).Fit := ⟨ck0_ck, by
  show -9223372036854775808 ≤ -7 - k ∧ -7 - k ≤ 9223372036854775807
  omega⟩
theorem results_act1 {fn : Func} {p : Tmp} {tmps : Array Value} {w : World} {g : Nat} {x : Ac} (h : fn.results = #[.cell p 48]) (hp : tmps.getD p undef = .pointer (some ⟨g, 0, none⟩)) (hx : x.Fit) (hg : RowAt g (acv x) 48 w) :
    (results fn tmps).run Tryd.prog w = .ok (.agg (acv x)) w := by
  have hp' : tmps[p]?.getD undef = .pointer (some ⟨g, 0, none⟩) := by simpa using hp
  simp [results, h, hp', asAddr, run_loadVar_row w g _ _ _ _ _ hg Tryd.underlying48 rfl (a_size hx)]
set_option maxHeartbeats 1000000 in
theorem act_is (k : Int) (h0 : 0 ≤ k) (h1 : k ≤ 1000) (w : World) : Calls Tryd.prog 43 #[.int .i64 k] w fun r w' => r = .returned (.agg (acv (mkA k))) ∧ Below w.heap.size w w' := by
  have hN := row_new w (acv (mkA k)) 48
  have hx := mkA_fit h0 h1
  go_enter Tryd.func43, Tryd.ntmps43
  go_wp2
  exact bodyPost_ret (v := .agg (acv (mkA k))) (results_act1 (fn := Tryd.f43) (p := 2) rfl rfl hx hN) rfl ⟨rfl, below_one w _⟩
theorem marksA_fit : AFit marksA := fun x hx => by
  simp only [marksA, List.mem_cons, List.not_mem_nil, or_false] at hx
  rcases hx with rfl | rfl | rfl | rfl <;> exact mkA_fit (by decide) (by decide)
set_option maxHeartbeats 4000000 in
/-- Two rows of the same acts are alike. -/
theorem acts_same {w : World} {u v : Value} {l : List Ac} (hu : SlC w u l) (hv : SlC w v l) (hf : AFit l) (hn : l.length ≤ 1000000) :
    Calls Tryd.prog 27 #[u, v] w fun e w' => e = .returned (.bool true) ∧ Below w.heap.size w w' := by
  obtain ⟨a, c, rfl⟩ := hu.form
  obtain ⟨a', c', rfl⟩ := hv.form
  have H := hid_of' (And.intro hu (And.intro hv hf))
  clear hu hv hf
  go_enter Tryd.func27, Tryd.ntmps27
  go_wp2
  go_loopw [5] (fun i wr => ∃ k : Nat, i = .int .i64 (k : Int) ∧ k ≤ l.length ∧ Below w.heap.size w wr) (fun i _ => l.length - (intOf i).toNat)
  case atStart => exact ⟨0, rfl, by omega, Below.refl _ _⟩
  case round =>
    rename World => wr
    obtain ⟨k, rfl, hk, hB⟩ := hrel
    by_cases hlt : k < l.length
    · have hki : (k : Int) < (l.length : Int) := by omega
      obtain ⟨x, hx⟩ : ∃ x, l[k]? = some x := ⟨_, List.getElem?_eq_getElem hlt⟩
      have hxf := H.out.2.2.at hx
      obtain ⟨g, o, c2, hv, _⟩ := H.out.1.pos (by omega)
      obtain ⟨g', o', c2', hv', _⟩ := H.out.2.1.pos (by omega)
      simp only [Value.slice.injEq, true_and] at hv hv'
      obtain ⟨rfl, rfl⟩ := hv
      obtain ⟨rfl, rfl⟩ := hv'
      have h1 := (H.out.1.in H.out.2.2 hx).later hB
      have h2 := (H.out.2.1.in H.out.2.2 hx).later hB
      have hq := eqIn_act hxf hxf
      have hs := aeq_self x
      have hg := act_guard
      go_upto_region 6 with fail
      refine wp_region_cls (by kernel_rfl) (by kernel_rfl) ?_
      repeat (first | go_big_quiet_skip | (go_big_quiet_want; first | (refine quiet_act _ rfl rfl hxf h1.cls ?_; simp only [Act.put, List.setIfInBounds_toArray, List.set_cons_succ, List.set_cons_zero]; go_big_quiet_on) | (refine quiet_act _ rfl rfl hxf h2.cls ?_; simp only [Act.put, List.setIfInBounds_toArray, List.set_cons_succ, List.set_cons_zero]; go_big_quiet_on) | (go_big_quiet_op; first | go_big_quiet_on | go_big_quiet_call ((fail)))))
      refine wpQuiet_nil ?_
      rintro w1 ⟨s1, e1⟩
      have hb1 := wOf_below s1
      rw [← e1] at hb1
      clear e1 s1
      replace hB := bgo hB hb1
      clear hb1
      go_wp2
      go_roundw
      case rel => exact ⟨k + 1, by go_num, by omega, hB⟩
      case measure => simp [intOf]; omega
    · have hki : ¬ (k : Int) < (l.length : Int) := by omega
      go_wp2
      go_ret
      exact ⟨rfl, hB⟩
theorem own_emptyA (w : World) : OwnA (.slice (some ⟨w.heap.size, 0, none⟩) 0 0) [] (w.alloc (.cells #[] 48)) :=
  ⟨⟨rfl, .inr ⟨w.heap.size, 0, #[], rfl, heap_alloc_last w _, Nat.le_refl _, Nat.zero_le _, by simp, rfl⟩⟩, AFit.nil⟩
theorem marksA_next (l : List Ac) (k : Nat) (hk : k < 4) : (l ++ marksA.take k) ++ [mkA (k : Int)] = l ++ marksA.take (k + 1) := by
  rw [List.append_assoc]
  congr 1
  match k, hk with
  | 0, _ => rfl
  | 1, _ => rfl
  | 2, _ => rfl
  | 3, _ => rfl
/-- A row of one's own all of whose blocks are new since w. -/
def NewB (w : World) (v : Value) : Prop := ∀ k, v.ownBlock = some k → w.heap.size ≤ k
end Go.Proofs.YtlgdaaofpjpobaaDoor
namespace Go.Proofs.YtlgdaaofpjpobaaDoor
open Go.RowKit Go.Maps
set_option maxRecDepth 100000

/-- A block of acts of so many cells. -/
def RowN (b n : Nat) (w : World) : Prop := ∃ cs, RowAt b cs 48 w ∧ cs.size = n
theorem RowN.later {b n : Nat} {w w' : World} (h : RowN b n w) (hb : Below w.heap.size w w') : RowN b n w' := by
  obtain ⟨cs, h1, h2⟩ := h
  exact ⟨cs, h1.later hb, h2⟩
theorem RowN.cells {b n : Nat} : ∀ (vs : List Value) (o_ : Nat) (w : World), RowN b n w → RowN b n (w.setCells b o_ vs)
  | [], _, _, h => h
  | v :: r, o_, w, ⟨cs, h1, h2⟩ => RowN.cells r (o_ + 1) _ ⟨cs.setIfInBounds o_ v, h1.setc o_ v, by simpa using h2⟩
theorem RowN.there {b n : Nat} {w : World} (h : RowN b n w) (o_ k : Nat) (hk : o_ + k ≤ n) : w.there b o_ k := fun j hj => by
  obtain ⟨cs, h1, h2⟩ := h
  refine ⟨?_, Lib.frozen_of_heap h1 _⟩
  rw [h1.cell, Array.getElem?_eq_getElem (by omega)]
  rfl
theorem mkA_at (l : List Ac) (k : Nat) (hk : k < 4) : (l ++ marksA)[l.length + k]? = some (mkA (k : Int)) := by
  rw [List.getElem?_append_right (by omega), show l.length + k - l.length = k by omega]
  match k, hk with
  | 0, _ => rfl
  | 1, _ => rfl
  | 2, _ => rfl
  | 3, _ => rfl
end Go.Proofs.YtlgdaaofpjpobaaDoor
