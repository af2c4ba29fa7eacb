
/-
  fault.meet: over a row of Faults, and at its end a reason (its number is appended) or a Many (by a contract that is handed in).
-/
import Derived.Test.YthabeapgkaggmaaDoorTree
import Derived.Deep.LoopGhost
namespace Go.Proofs.YthabeapgkaggmaaDoor
open Go.RowKit Go.Extern.Stop Go.Stop Go.Extern
set_option maxRecDepth 100000

/-- What a tour has become behind an error. -/
def Met (ad : Nat → Addr) (T m : Nat) (again : Bool) (M : List Nat → Option Obj → Prop) (w : World) (first : Option Nat) (xs : List Int) (seen : List Nat) (w' : World) : Prop :=
  Below m w w' ∧ LaidB ad m w' ∧ (∃ codes, TourAt T m w' again (fp first) codes xs) ∧ M seen w'.heap[m]?

theorem info_int : (Tryd.prog.info? 3).map (fun i => (i.zero, i.size, i.bytes)) = some (some (.int .i64 0), 1, 8) := by kernel_rfl

/-- The tail of meet behind the Faults: a reason with a number. -/
theorem below_m {m : Nat} {w w' : World} (hb : Below w.heap.size w w') (h : m ≤ w.heap.size) : Below m w w' := hb.mono h

theorem TourAt.alloc {T m : Nat} {w : World} {again : Bool} {first codes : Value} {xs : List Int} (h : TourAt T m w again first codes xs) (o : Obj) : TourAt T m (w.alloc o) again first codes xs := h.below (below_oneE w o)
theorem TourAt.grown {T m : Nat} {w w' : World} {again : Bool} {first codes : Value} {xs : List Int} (h : TourAt T m w again first codes xs) (hg : w.grownBy w' codes.ownBlock) :
    w'.heap[T]? = some (.cells #[.bool again, first, codes, .map (some m)] 69 (0, 0)) := by
  rw [hg.block T h.lt (fun e => by have := (h.own.lt T e.symm).1; omega)]; exact h.lies
theorem below_grown {m T : Nat} {w w' : World} {v : Value} {n : Nat} {xs : List Value} {e : TypeId} (hg : w.grownBy w' v.ownBlock) (ho : w.ownsRow (T + 1) e 1 v n xs) (h : m ≤ T) (hs : T < w.heap.size) : Below m w w' :=
  (Below.refl m w).grown hg (by omega) (fun k hk => by have := (ho.lt k hk).1; omega)
theorem owns_slice {w : World} {base : Nat} {e : TypeId} {size : Nat} {v : Value} {n : Nat} {xs : List Value} (h : w.ownsRow base e size v n xs) : ∃ a k c, v = .slice a k c := by
  rcases h.2 with ⟨rfl, _⟩ | ⟨g, cap, cur, rfl, _⟩
  · exact ⟨_, _, _, rfl⟩
  · exact ⟨_, _, _, rfl⟩
theorem block_set (w : World) (T m i : Nat) (v : Value) (h : m < T) : (w.setCell ⟨T, i, none⟩ v).heap[m]? = w.heap[m]? := Below.heap_setCell w ⟨T, i, none⟩ v m (by show m ≠ T; omega)

set_option maxHeartbeats 2000000 in
theorem tour_meet_any {ad : Nat → Addr} {T m : Nat} (hmT : m < T) {again : Bool} {M : List Nat → Option Obj → Prop} {w : World} {first : Option Nat} {codes : Value} {xs : List Int} {seen : List Nat} (e : ErrT)
    (hx : xs.length ≤ 100000) (L : LaidB ad m w) (hS : Spine ad m w e) (hT : TourAt T m w again (fp first) codes xs) (hM : M seen w.heap[m]?)
    (HM : ∀ b g cap kids, leaf e = .many b g cap kids → ∀ (w1 : World) (f1 : Option Nat), Below m w w1 → LaidB ad m w1 → TourAt T m w1 again (fp f1) codes xs → M seen w1.heap[m]? →
      Calls Tryd.prog 42 #[.pointer (some ⟨T, 0, none⟩), .pointer (some ⟨b, 0, none⟩)] w1 fun ev w' => ev = .returned (.tuple #[]) ∧ Met ad T m again M w1 (f1.or (fst (leaf e))) (xs ++ cds (leaf e)) (mns (leaf e) ++ seen) w') :
    Calls Tryd.prog 36 #[.pointer (some ⟨T, 0, none⟩), val ad e] w fun ev w' => ev = .returned (.tuple #[]) ∧ Met ad T m again M w (first.or (fst e)) (xs ++ cds e) (mns e ++ seen) w' := by
  obtain ⟨i0, hi, hi3⟩ := Option.map_eq_some_iff.1 info_int
  simp only [Prod.mk.injEq] at hi3
  obtain ⟨hz0, hz1, hz2⟩ := hi3
  have HX : Hid (xs.length ≤ 100000) := hx
  have HMm : Aside (∀ b g cap kids, leaf e = .many b g cap kids → ∀ (w1 : World) (f1 : Option Nat), Below m w w1 → LaidB ad m w1 → TourAt T m w1 again (fp f1) codes xs → M seen w1.heap[m]? →
      Calls Tryd.prog 42 #[.pointer (some ⟨T, 0, none⟩), .pointer (some ⟨b, 0, none⟩)] w1 fun ev w' => ev = .returned (.tuple #[]) ∧ Met ad T m again M w1 (f1.or (fst (leaf e))) (xs ++ cds (leaf e)) (mns (leaf e) ++ seen) w') := HM
  clear hx HM
  go_enter Tryd.func36, Tryd.ntmps36
  go_wp2_with (go_at_call 30; refine (asFault_any L.laid e hS).mono ?_; rintro ev w1 ⟨rfl, hb1⟩)
  have hsz : T < w.heap.size := hT.lt
  have hb1m : Below m w w1 := hb1.mono (by omega)
  go_loopg [1, 4] (deep e) (fun k v f wr => ∃ (e' : ErrT) (f1 : Option Nat), k = deep e' ∧ v = val ad e' ∧ f = faultOf e' ∧ Aside (leaf e' = leaf e ∧ f1.or (fst e') = first.or (fst e) ∧ cds e' = cds e ∧ mns e' = mns e) ∧ Spine ad m wr e' ∧ Below m w wr ∧ LaidB ad m wr ∧ TourAt T m wr again (fp f1) codes xs ∧ M seen wr.heap[m]?)
  case atStart => exact ⟨e, first, rfl, rfl, rfl, ⟨rfl, rfl, rfl, rfl⟩, hS.below hb1m, hb1m, L.below hb1m, hT.below hb1, by rw [hb1.block m (by omega)]; exact hM⟩
  case round =>
    obtain ⟨e', f1, hgk, rfl, rfl, hA, hS', hbr, Lr, hTr, hMr⟩ := hrel
    clear hM hb1 hb1m L hS hT
    have hszr : T < wr.heap.size := hTr.lt
    have t0 : wr.cell? ⟨T, 0, none⟩ = some (.bool again) := by rw [cell_of_heap hTr.lies]; rfl
    have t1 : wr.cell? ⟨T, 1, none⟩ = some (fp f1) := by rw [cell_of_heap hTr.lies]; rfl
    have t2 : wr.cell? ⟨T, 2, none⟩ = some codes := by rw [cell_of_heap hTr.lies]; rfl
    have tf : ∀ i, wr.frozen? ⟨T, i, none⟩ = false := fun i => frozen_of_heap hTr.lies i
    cases e' with
    | fault b la ca at_ why =>
      obtain ⟨hbm, hbh, hne, hSw⟩ := hS'
      have c3 : wr.cell? ⟨b, 3, none⟩ = some (val ad why) := by rw [cell_of_heap hbh]; rfl
      cases f1 with
      | none =>
        have c3' : (wr.setCell ⟨T, 1, none⟩ (.pointer (some ⟨b, 0, none⟩))).cell? ⟨b, 3, none⟩ = some (val ad why) := by
          rw [cell_of_heap (w := wr.setCell ⟨T, 1, none⟩ (.pointer (some ⟨b, 0, none⟩))) (by rw [block_set wr T b 1 _ (by omega)]; exact hbh)]; rfl
        have hbs : Below m wr (wr.setCell ⟨T, 1, none⟩ (.pointer (some ⟨b, 0, none⟩))) := (Below.refl _ _).setCell (by show m ≤ T; omega) _
        have hTs := hTr.first (.pointer (some ⟨b, 0, none⟩))
        simp only [fp] at t1
        simp only [faultOf_fault]
        go_wp2_with (go_at_call 30; refine (asFault_any (Lr.below hbs).laid why (hSw.below hbs)).mono ?_; rintro ev w2 ⟨rfl, hb2⟩)
        have hb2m : Below m (wr.setCell ⟨T, 1, none⟩ (.pointer (some ⟨b, 0, none⟩))) w2 := hb2.mono (by have := hTs.lt; omega)
        go_roundg (deep why)
        case measure => rw [hgk]; simp [deep]
        case rel =>
          obtain ⟨a1, a2, a3, a4⟩ := hA.out
          exact ⟨why, some b, rfl, rfl, rfl, ⟨a1, by simpa [fst] using a2, a3, a4⟩, (hSw.below hbs).below hb2m, hbr.trans (hbs.trans hb2m), (Lr.below hbs).below hb2m, hTs.below hb2, by rw [hb2.block m (by have := hTs.lt; omega), block_set wr T m 1 _ hmT]; exact hMr⟩
      | some b1 =>
        simp only [fp] at t1
        simp only [faultOf_fault]
        go_wp2_with (go_at_call 30; refine (asFault_any Lr.laid why hSw).mono ?_; rintro ev w2 ⟨rfl, hb2⟩)
        have hb2m : Below m wr w2 := hb2.mono (by omega)
        go_roundg (deep why)
        case measure => rw [hgk]; simp [deep]
        case rel =>
          obtain ⟨a1, a2, a3, a4⟩ := hA.out
          exact ⟨why, some b1, rfl, rfl, rfl, ⟨a1, by simpa [fst] using a2, a3, a4⟩, hSw.below hb2m, hbr.trans hb2m, Lr.below hb2m, hTr.below hb2, by rw [hb2.block m (by omega)]; exact hMr⟩
    | none =>
      simp only [faultOf_none, val_none]
      go_wp2_with (first | (go_at_call 31; refine (asMany_nil _).mono ?_; rintro ev w2 ⟨rfl, hb2⟩) | (go_at_call 43; refine (number_nil ((Lr.laid).below hb2)).mono ?_; rintro ev w3 ⟨rfl, hb3⟩))
      go_end0
      obtain ⟨a1, a2, a3, a4⟩ := hA.out
      have hb := bgoE hb2 hb3
      have hbm : Below m wr w3 := hb.mono (by omega)
      refine ⟨rfl, hbr.trans hbm, Lr.below hbm, ⟨codes, ?_⟩, ?_⟩
      · rw [← a2, ← a3]; simpa [fst, cds] using hTr.below hb
      · rw [← a4, hb.block m (by omega)]; simpa [mns] using hMr
    | rsn k =>
      have hk : k < 14 := hS'
      simp only [faultOf_rsn, val_rsn]
      by_cases h13 : k < 13
      · have hne0 : ((k : Int) + 1 != 0) = true := by simp; omega
        go_wp2_with (first | (go_at_call 31; refine (asMany_s _ _ Lr.laid.et).mono ?_; rintro ev w2 ⟨rfl, hb2⟩) | (go_at_call 43; refine (number_yes ((Lr.laid).below hb2) k h13).mono ?_; rintro ev w3 ⟨rfl, hb3⟩; have hT3 := (hTr.below hb2).below hb3; have u2 : w3.cell? ⟨T, 2, none⟩ = some codes := by (rw [cell_of_heap hT3.lies]; rfl)) | (at_builtin; refine wpList_append_own _ rfl _ _ 31 rfl (T + 1) 3 i0 (.int .i64 0) 1 8 Tryd.underlying31 hi hz0 hz1 hz2 rfl (by decide) _ _ _ rfl (hT3.own.alloc _) ⟨w3.heap.size, 0, none⟩ 1 1 [.int .i64 ((k : Int) + 1)] rfl rfl ?c1 ?c2 ?c3 ?c4 ?c5 ?_))
        case c1 => exact cell_one_new _ _ _
        case c2 => intro u hu; simp at hu; subst hu; rfl
        case c3 => have := HX.out; unfold maxLen; omega
        case c4 => have := HX.out; omega
        case c5 => have := hT3.lt; simp; omega
        intro v0 w4 hown0 hgr hnn
        clear hnn
        obtain ⟨va, vn, vc, hv'⟩ := owns_slice hown0
        rw [hv'] at hown0 ⊢
        clear hv'
        have hTa := hT3.alloc (.cells #[.int .i64 ((k : Int) + 1)] 3)
        have x2 : w4.cell? ⟨T, 2, none⟩ = some codes := by rw [cell_of_heap (hTa.grown hgr)]; rfl
        have xf : w4.frozen? ⟨T, 2, none⟩ = false := frozen_of_heap (hTa.grown hgr) 2
        go_wp2
        go_end0
        obtain ⟨a1, a2, a3, a4⟩ := hA.out
        have hb := bal (bgoE hb2 hb3) (.cells #[.int .i64 ((k : Int) + 1)] 3)
        have hbm : Below m wr (w3.alloc (.cells #[.int .i64 ((k : Int) + 1)] 3)) := hb.mono (by omega)
        have hbg : Below m (w3.alloc (.cells #[.int .i64 ((k : Int) + 1)] 3)) w4 := below_grown hgr hTa.own (by omega) hTa.lt
        have hall : Below m wr (w4.setCell ⟨T, 2, none⟩ (.slice va vn vc)) := (hbm.trans hbg).setCell (by show m ≤ T; omega) _
        refine ⟨rfl, hbr.trans hall, Lr.below hall, ⟨.slice va vn vc, ?_⟩, ?_⟩
        · rw [← a2, ← a3]
          have := hTa.codes (ys := xs ++ [(k : Int) + 1]) hgr (by simpa using hown0)
          simpa [fst, cds, h13] using this
        · rw [← a4, block_set w4 T m 2 _ hmT, hgr.block m (by have := hTa.lt; omega) (fun e => by have := (hTa.own.lt m e.symm).1; omega), hb.block m (by omega)]; simpa [mns] using hMr
      · have hk13 : k = 13 := by omega
        subst hk13
        go_wp2_with (first | (go_at_call 31; refine (asMany_s _ _ Lr.laid.et).mono ?_; rintro ev w2 ⟨rfl, hb2⟩) | (go_at_call 43; refine (number_other ((Lr.laid).below hb2)).mono ?_; rintro ev w3 ⟨rfl, hb3⟩))
        go_end0
        obtain ⟨a1, a2, a3, a4⟩ := hA.out
        have hb := bgoE hb2 hb3
        have hbm : Below m wr w3 := hb.mono (by omega)
        refine ⟨rfl, hbr.trans hbm, Lr.below hbm, ⟨codes, ?_⟩, ?_⟩
        · rw [← a2, ← a3]; simpa [fst, cds] using hTr.below hb
        · rw [← a4, hb.block m (by omega)]; simpa [mns] using hMr
    | many b g cap kids =>
      simp only [faultOf_many, val_many]
      go_wp2_with (first | (go_at_call 31; refine (asMany_m _ _ Lr.laid.et).mono ?_; rintro ev w2 ⟨rfl, hb2⟩) | (go_at_call 42; refine (HMm.out b g cap kids hA.out.1.symm w2 f1 (hbr.trans (hb2.mono (by omega))) (Lr.below (hb2.mono (by omega))) (hTr.below hb2) (by rw [hb2.block m (by omega)]; exact hMr)).mono ?_; rintro ev w3 ⟨rfl, hm3⟩))
      go_end0
      obtain ⟨a1, a2, a3, a4⟩ := hA.out
      obtain ⟨h1, h2, ⟨cc, h3⟩, h4⟩ := hm3
      refine ⟨rfl, (hbr.trans (hb2.mono (by omega))).trans h1, h2, ⟨cc, ?_⟩, ?_⟩
      · rw [← a2, ← a3]; rw [← a1] at h3; simpa [leaf] using h3
      · rw [← a4]; rw [← a1] at h4; simpa [leaf] using h4
end Go.Proofs.YthabeapgkaggmaaDoor
