
/-
  barrowkeep.IntactActs, SpoilActs; barrowlaw11.cut; causal.Missing and the document's.
-/
import Derived.Test.YtlkcjbmdeimocaaDoorCa8
namespace Go.Proofs.YtlkcjbmdeimocaaDoor
open Go.RowKit Go.Maps
set_option maxRecDepth 100000

/-- A block of acts of so many cells. -/
def RowN (b n : Nat) (w : World) : Prop := ∃ cs, RowAt b cs 48 w ∧ cs.size = n
theorem RowN.later {b n : Nat} {w w' : World} (h : RowN b n w) (hb : Below w.heap.size w w') : RowN b n w' := by
  obtain ⟨cs, h1, h2⟩ := h
  exact ⟨cs, h1.later hb, h2⟩
theorem RowN.cells {b n : Nat} : ∀ (vs : List Value) (o_ : Nat) (w : World), RowN b n w → RowN b n (w.setCells b o_ vs)
  | [], _, _, h => h
  | v :: r, o_, w, ⟨cs, h1, h2⟩ => RowN.cells r (o_ + 1) _ ⟨cs.setIfInBounds o_ v, h1.setc o_ v, by simpa using h2⟩
theorem RowN.there {b n : Nat} {w : World} (h : RowN b n w) (o_ k : Nat) (hk : o_ + k ≤ n) : w.there b o_ k := fun j hj => by
  obtain ⟨cs, h1, h2⟩ := h
  refine ⟨?_, Lib.frozen_of_heap h1 _⟩
  rw [h1.cell, Array.getElem?_eq_getElem (by omega)]
  rfl
theorem mkA_at (l : List Ac) (k : Nat) (hk : k < 4) : (l ++ marksA)[l.length + k]? = some (mkA (k : Int)) := by
  rw [List.getElem?_append_right (by omega), show l.length + k - l.length = k by omega]
  match k, hk with
  | 0, _ => rfl
  | 1, _ => rfl
  | 2, _ => rfl
  | 3, _ => rfl
set_option maxHeartbeats 8000000 in
theorem intactA_ok {w : World} {g c : Nat} {l : List Ac} {u : Value} (hu : SlC w u l) (ho : OwnA (.slice (some ⟨g, 0, none⟩) (l.length + 4) c) (l ++ marksA) w) (hn : l.length ≤ 1000) :
    Calls Tryd.prog 18 #[.slice (some ⟨g, 0, none⟩) l.length c, u] w fun e w' => e = .returned (.bool true) ∧ Ch (fun k => k = g) w w' := by
  obtain ⟨a', c', rfl⟩ := hu.form
  have e4 : (l ++ marksA).length = l.length + 4 := by simp [marksA]
  have hf : AFit l := fun x hx => ho.2 x (by simp [hx])
  obtain ⟨hrow, hlc⟩ : (∃ N, c * 13 ≤ N ∧ RowN g N w) ∧ l.length + 4 ≤ c := by
    rcases ho.1.2 with ⟨h, _⟩ | ⟨g2, cap, cur, h1, h3, h4, _, h5, _⟩
    · cases h
    · simp only [Value.slice.injEq, Option.some.injEq, Addr.mk.injEq, and_true] at h1
      obtain ⟨rfl, _, rfl⟩ := h1
      rw [e4] at h4
      exact ⟨⟨cur.size, h5, cur, h3, rfl⟩, h4⟩
  obtain ⟨N, hcN, hrow⟩ := hrow
  have hE := ho.sl
  rw [← e4] at hE
  have s1 : SlC w (.slice (some ⟨g, 0, none⟩) l.length c) l := by
    rcases hE with ⟨h0, _⟩ | ⟨g2, o2, c2, h1, h2, h3⟩
    · simp [marksA] at h0
    · simp only [Value.slice.injEq, Option.some.injEq, Addr.mk.injEq, and_true] at h1
      obtain ⟨⟨rfl, rfl⟩, _, rfl⟩ := h1
      refine .inr ⟨g, 0, c, rfl, h2, fun j v hj => h3 j v ?_⟩
      rw [acells_app, List.getElem?_append_left (List.getElem?_eq_some_iff.1 hj).1]
      exact hj
  have HE := hid_of' (And.intro hE ho.2)
  have HR := hid_of' hrow
  have HQ := hid_of' (acts_same s1 hu hf (by omega))
  obtain ⟨n4, hn4⟩ : ∃ n4, l.length + 4 = n4 := ⟨_, rfl⟩
  have hs : (l.length : Int) + 4 = (n4 : Int) := by omega
  have k1 : (n4 : Int) ≤ (c : Int) := by omega
  have k2 : (l.length : Int) ≤ (c : Int) := by omega
  have k3 : 0 ≤ (l.length : Int) := by omega
  have k7 : 0 ≤ (n4 : Int) := by omega
  have k5 : (l.length : Int) ≤ 1000 := by omega
  have n1 : n4 ≤ c := by omega
  have n2 : l.length ≤ c := by omega
  clear hE hrow s1 hu ho
  go_enter Tryd.func18, Tryd.ntmps18
  go_wp2_with (go_at_call 19; refine HQ.out.mono ?_; rintro r w1 ⟨rfl, hb1⟩; clear HQ)
  go_loopw [6, 7] (fun b i wr => ∃ k : Nat, b = .bool true ∧ i = .int .i64 (k : Int) ∧ k ≤ 4 ∧ Below w.heap.size w wr) (fun _ i _ => 4 - (intOf i).toNat)
  case atStart => exact ⟨0, rfl, rfl, by omega, hb1⟩
  case round =>
    rename World => wr
    obtain ⟨k, rfl, rfl, hk, hB⟩ := hrel
    by_cases hlt : k < 4
    · have hki : (k : Int) < 4 := by omega
      have hmf := mkA_fit (k := (k : Int)) (by omega) (by omega)
      have hof : ∀ o', o' = (l.length + k) * 13 → CsIn g o' (acv (mkA (k : Int))) wr := fun o' e => by
        have := (HE.out.1.in HE.out.2 (mkA_at l k hlt)).later hB
        rw [Nat.zero_add] at this
        rw [e]; exact this
      have hidx : (l.length : Int) + (k : Int) < (n4 : Int) := by omega
      have hidx2 : (l.length : Int) + (k : Int) ≤ 1004 := by omega
      have hq := eqIn_act hmf hmf
      have hsf := aeq_self (mkA (k : Int))
      have hgd := act_guard
      go_upto_region 6 with fail
      refine wp_region_cls (by kernel_rfl) (by kernel_rfl) ?_
      repeat (first | go_big_quiet_skip | (go_big_quiet_want; first | (refine quiet_act _ rfl rfl hmf (CsIn.cls (hof _ (by go_num))) ?_; simp only [Act.put, List.setIfInBounds_toArray, List.set_cons_succ, List.set_cons_zero]; go_big_quiet_on) | (go_big_quiet_op; first | go_big_quiet_on | go_big_quiet_call ((go_at_call 43; exact cls_of (act_is (k : Int) (by omega) (by omega) _))))))
      refine wpQuiet_nil ?_
      rintro w1 ⟨s1, e1⟩
      have hb1 := wOf_below s1
      rw [← e1] at hb1
      clear e1 s1
      replace hB := bgo hB hb1
      clear hb1
      go_wp2
      go_roundw
      case rel => exact ⟨k + 1, rfl, by go_num, by omega, hB⟩
      case measure => simp [intOf]; omega
    · have hk4 : (k : Int) = 4 := by omega
      rw [hk4]
      clear hk4 hlt hk
      go_wp2
      have hR1 := HR.out.later hB
      have hK1 := Ch.of (S := fun k => k = g) hB
      clear hB
      go_loopw [8] (fun i wq => ∃ k : Nat, i = .int .i64 (k : Int) ∧ k ≤ n4 ∧ RowN g N wq ∧ Ch (fun k => k = g) w wq) (fun i _ => n4 - (intOf i).toNat)
      case atStart => exact ⟨0, rfl, by omega, hR1, hK1⟩
      case round =>
        rename World => wq
        obtain ⟨k, rfl, hk, hRq, hKq⟩ := hrel
        by_cases hlt : k < n4
        · have hki : (k : Int) < (n4 : Int) := by omega
          have hm9 := mkA_fit (k := 99) (by decide) (by decide)
          have HM := hid_of' (act_is 99 (by decide) (by decide) wq)
          have HRq := hid_of' hRq
          have hko : k * 13 + 13 ≤ N := by omega
          go_wp2_with (first | (go_at_call 43; refine HM.out.mono ?_; rintro r w2 ⟨rfl, hb2⟩; clear HM) | (refine wpL_storeA (p := mkA 99) rfl _ _ rfl rfl rfl hm9 ((HRq.out.later hb2).there _ _ hko) ?_; have hR3 := (HRq.out.later hb2).cells (acv (mkA 99)).toList (k * 13) w2; have hK3 := Ch.cells (S := fun k => k = g) (g := g) (.inl rfl) (acv (mkA 99)).toList (k * 13) w2 (hKq.later hb2); generalize w2.setCells g (k * 13) (acv (mkA 99)).toList = w3 at hR3 hK3 ⊢))
          go_roundw
          case rel => exact ⟨k + 1, by go_num, by omega, hR3, hK3⟩
          case measure => simp [intOf]; omega
        · have hki : ¬ (k : Int) < (n4 : Int) := by omega
          go_wp2
          go_ret
          exact ⟨rfl, hKq⟩
end Go.Proofs.YtlkcjbmdeimocaaDoor
