
/-
  barrowkeep.IntactElements: what was lent is as it was; then it is written over.
-/
import Derived.Test.YtmhijdoojkbcjaaGreatDoorTrKeep
import Derived.Deep.MidRow
namespace Go.Proofs.YtmhijdoojkbcjaaGreatDoor
open Go.RowKit
set_option maxRecDepth 100000

theorem Kp.cells {b : Nat} : ∀ (vs : List Value) (o_ : Nat) (w : World), Kp b w (w.setCells b o_ vs)
  | [], _, _w => Kp.of (Below.refl _ _)
  | v :: r, o_, _w => (Kp.cell b o_ v).trans (Kp.cells r (o_ + 1) _)
/-- A block of so many cells. -/
def RowN (b n : Nat) (w : World) : Prop := ∃ cs, RowAt b cs 41 w ∧ cs.size = n
theorem RowN.later {b n : Nat} {w w' : World} (h : RowN b n w) (hb : Below w.heap.size w w') : RowN b n w' := by
  obtain ⟨cs, h1, h2⟩ := h
  exact ⟨cs, h1.later hb, h2⟩
theorem RowN.cells {b n : Nat} : ∀ (vs : List Value) (o_ : Nat) (w : World), RowN b n w → RowN b n (w.setCells b o_ vs)
  | [], _, _, h => h
  | v :: r, o_, w, ⟨cs, h1, h2⟩ => RowN.cells r (o_ + 1) _ ⟨cs.setIfInBounds o_ v, heap_setCell_at h1 o_ v, by simpa using h2⟩
theorem RowN.there {b n : Nat} {w : World} (h : RowN b n w) (o_ k : Nat) (hk : o_ + k ≤ n) : w.there b o_ k := fun j hj => by
  obtain ⟨cs, h1, h2⟩ := h
  refine ⟨?_, Lib.frozen_of_heap h1 _⟩
  rw [h1.cell, Array.getElem?_eq_getElem (by omega)]
  rfl
theorem wpL_storeM {ops : Array Oper} {rest : List Oper} {o : Oper} {A : Act} {w : World} {Q : Exit → Act → World → Prop} (hgd : o.guard = none) (x y : Operand) (ho : o.op = .store 41 x y) {g off : Nat} (hx : A.eval x = .pointer (some ⟨g, off, none⟩)) {e : El} (hy : A.eval y = .agg (ev e)) (ht : w.there g off 5)
    (k : wpList Tryz.prog ops Q rest (A.put o.dst undef) (w.setCells g off (ev e).toList)) : wpList Tryz.prog ops Q (o :: rest) A w :=
  wpList_store_mid hgd _ x y ho g off (ev e) hx hy ht (e_size e) (by simp [ev, Value.oneCell']) k
theorem mk_at (l : List El) (k : Nat) (hk : k < 4) : (l ++ marks)[l.length + k]? = some (mk (k : Int)) := by
  rw [List.getElem?_append_right (by omega), show l.length + k - l.length = k by omega]
  match k, hk with
  | 0, _ => rfl
  | 1, _ => rfl
  | 2, _ => rfl
  | 3, _ => rfl
set_option maxHeartbeats 8000000 in
theorem intact_ok {base : Nat} {w : World} {g c : Nat} {l : List El} {u : Value} (hu : SlE w u l) (ho : OwnE base (.slice (some ⟨g, 0, none⟩) (l.length + 4) c) (l ++ marks) w) (hn : l.length ≤ 1000) :
    Calls Tryz.prog 29 #[.slice (some ⟨g, 0, none⟩) l.length c, u] w fun e w' => e = .returned (.bool true) ∧ Kp g w w' := by
  obtain ⟨a', c', rfl⟩ := hu.form
  have hne : l ++ marks ≠ [] := by simp [marks]
  have e4 : (l ++ marks).length = l.length + 4 := by simp [marks]
  obtain ⟨g', c1, _, hv1, hE, hlc, hc9⟩ := ho.room hne
  have hrow : RowN g (c * 5) w := by
    rcases ho.2 with ⟨h, _⟩ | ⟨g2, cap, cur, h1, _, h3, _, _, h4, _⟩
    · cases h
    · simp only [Value.slice.injEq, Option.some.injEq, Addr.mk.injEq] at h1
      obtain ⟨⟨rfl, _⟩, _, rfl⟩ := h1
      exact ⟨cur, h3, h4⟩
  simp only [Value.slice.injEq, Option.some.injEq, Addr.mk.injEq] at hv1
  obtain ⟨⟨rfl, _⟩, _, rfl⟩ := hv1
  rw [e4] at hlc
  have HE := hid_of' hE
  have HR := hid_of' hrow
  have s1 : SlE w (.slice (some ⟨g, 0, none⟩) l.length c) l := .inr ⟨g, 0, c, rfl, by have := hE.take l.length; rwa [List.take_left'] at this; rfl⟩
  have HQ := hid_of' (elements_eq s1 hu (by omega))
  obtain ⟨n4, hn4⟩ : ∃ n4, l.length + 4 = n4 := ⟨_, rfl⟩
  have hs : (l.length : Int) + 4 = (n4 : Int) := by omega
  have k1 : (n4 : Int) ≤ (c : Int) := by omega
  have k2 : (l.length : Int) ≤ (c : Int) := by omega
  have k3 : 0 ≤ (l.length : Int) := by omega
  have k7 : 0 ≤ (n4 : Int) := by omega
  have k5 : (l.length : Int) ≤ 1000 := by omega
  clear hE hrow s1 hu ho hne
  go_enter Tryz.func29, Tryz.ntmps29
  go_wp2_with (go_at_call 19; refine HQ.out.mono ?_; rintro r w1 ⟨rfl, hb1⟩; clear HQ)
  go_loopw [6, 7] (fun b i wr => ∃ k : Nat, b = .bool true ∧ i = .int .i64 (k : Int) ∧ k ≤ 4 ∧ Below w.heap.size w wr) (fun _ i _ => 4 - (intOf i).toNat)
  case atStart => exact ⟨0, rfl, rfl, by omega, hb1⟩
  case round =>
    rename_i wr
    obtain ⟨k, rfl, rfl, hk, hB⟩ := hrel
    by_cases hlt : k < 4
    · have hki : (k : Int) < 4 := by omega
      have hof : ∀ o', o' = (l.length + k) * 5 → CsIn g o' (ev (mk (k : Int))) wr := fun o' e => by
        have := (HE.out.later hB) (l.length + k) _ (mk_at l k hlt)
        rw [Nat.zero_add] at this
        rw [e]; exact this
      have hidx : (l.length : Int) + (k : Int) < (n4 : Int) := by omega
      have hidx2 : (l.length : Int) + (k : Int) ≤ 1004 := by omega
      have hq := eq_E (mk (k : Int))
      go_upto_region 6 with fail
      refine wp_region_cls (by kernel_rfl) (by kernel_rfl) ?_
      repeat (first | go_big_quiet_skip | (go_big_quiet_want; first | (refine quiet_load_in _ _ rfl rfl (CsIn.cls (hof _ (by go_num))) Tryz.underlying41 rfl (e_size _) ?_; simp only [Act.put, List.setIfInBounds_toArray, List.set_cons_succ, List.set_cons_zero]; go_big_quiet_on) | (go_big_quiet_op; first | go_big_quiet_on | go_big_quiet_call ((go_at_call 48; exact cls_of (mark_any _ _))))))
      refine wpQuiet_nil ?_
      rintro w1 ⟨s1, e1⟩
      have hb1 := wOf_below s1
      rw [← e1] at hb1
      clear e1 s1
      replace hB := bgo hB hb1
      clear hb1
      go_wp2
      go_roundw
      case rel => exact ⟨k + 1, rfl, by go_num, by omega, hB⟩
      case measure => simp [intOf]; omega
    · have hk4 : (k : Int) = 4 := by omega
      rw [hk4]
      clear hk4 hlt hk
      go_wp2
      have hR1 := HR.out.later hB
      have hK1 := Kp.of (x := g) hB
      clear hB
      go_loopw [8] (fun i wq => ∃ k : Nat, i = .int .i64 (k : Int) ∧ k ≤ n4 ∧ RowN g (c * 5) wq ∧ Kp g w wq) (fun i _ => n4 - (intOf i).toNat)
      case atStart => exact ⟨0, rfl, by omega, hR1, hK1⟩
      case round =>
        obtain ⟨k, rfl, hk, hRq, hKq⟩ := hrel
        by_cases hlt : k < n4
        · have hki : (k : Int) < (n4 : Int) := by omega
          have HM := hid_of' (mark_any 99)
          have HRq := hid_of' hRq
          have hko : k * 5 + 5 ≤ c * 5 := by omega
          go_wp2_with (first | (go_at_call 48; refine (HM.out _).mono ?_; rintro r w2 ⟨rfl, hb2⟩; clear HM) | (refine wpL_storeM (e := mk 99) rfl _ _ rfl rfl rfl ((HRq.out.later hb2).there _ _ hko) ?_; have hR3 := (HRq.out.later hb2).cells (ev (mk 99)).toList (k * 5) w2; have hK3 := (Kp.of (x := g) hb2).trans (Kp.cells (ev (mk 99)).toList (k * 5) w2); generalize w2.setCells g (k * 5) (ev (mk 99)).toList = w3 at hR3 hK3 ⊢))
          go_roundw
          case rel => exact ⟨k + 1, by go_num, by omega, hR3, hKq.trans hK3⟩
          case measure => simp [intOf]; omega
        · have hki : ¬ (k : Int) < (n4 : Int) := by omega
          go_wp2
          go_ret
          exact ⟨rfl, hKq⟩
end Go.Proofs.YtmhijdoojkbcjaaGreatDoor
