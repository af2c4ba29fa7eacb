
/-
  fault.meet: over a row of Faults, and at its end a reason (its number is appended) or a Many (by a contract that is handed in). fault.goThrough and fault.Code, out of a contract of fault.meet. Lists that are only read; barrowkeep.Ints and barrowkeep.Links of two lists that are alike; fault.Codes.
-/
import Derived.Test.YteffpnjgchihpaaGreatDoorPB05
import Derived.Deep.LoopGhost
import Derived.BigQuiet
namespace Go.Proofs.YteffpnjgchihpaaGreatDoor
open Go.RowKit Go.Extern.Stop Go.Stop Go.Extern
set_option maxRecDepth 100000

/-- What a tour has become behind an error. -/
def Met (ad : Nat → Addr) (T m : Nat) (again : Bool) (M : List Nat → Option Obj → Prop) (w : World) (first : Option Nat) (xs : List Int) (seen : List Nat) (w' : World) : Prop :=
  Below m w w' ∧ LaidB ad m w' ∧ (∃ codes, TourAt T m w' again (fp first) codes xs) ∧ M seen w'.heap[m]?

theorem info_int : (Tryz.prog.info? 3).map (fun i => (i.zero, i.size, i.bytes)) = some (some (.int .i64 0), 1, 8) := by kernel_rfl

/-- The tail of meet behind the Faults: a reason with a number. -/
theorem below_m {m : Nat} {w w' : World} (hb : Below w.heap.size w w') (h : m ≤ w.heap.size) : Below m w w' := hb.mono h

theorem TourAt.alloc {T m : Nat} {w : World} {again : Bool} {first codes : Value} {xs : List Int} (h : TourAt T m w again first codes xs) (o : Obj) : TourAt T m (w.alloc o) again first codes xs := h.below (below_oneE w o)
theorem TourAt.grown {T m : Nat} {w w' : World} {again : Bool} {first codes : Value} {xs : List Int} (h : TourAt T m w again first codes xs) (hg : w.grownBy w' codes.ownBlock) :
    w'.heap[T]? = some (.cells #[.bool again, first, codes, .map (some m)] 100 (0, 0)) := by
  rw [hg.block T h.lt (fun e => by have := (h.own.lt T e.symm).1; omega)]; exact h.lies
theorem below_grown {m T : Nat} {w w' : World} {v : Value} {n : Nat} {xs : List Value} {e : TypeId} (hg : w.grownBy w' v.ownBlock) (ho : w.ownsRow (T + 1) e 1 v n xs) (h : m ≤ T) (hs : T < w.heap.size) : Below m w w' :=
  (Below.refl m w).grown hg (by omega) (fun k hk => by have := (ho.lt k hk).1; omega)
theorem owns_slice {w : World} {base : Nat} {e : TypeId} {size : Nat} {v : Value} {n : Nat} {xs : List Value} (h : w.ownsRow base e size v n xs) : ∃ a k c, v = .slice a k c := by
  rcases h.2 with ⟨rfl, _⟩ | ⟨g, cap, cur, rfl, _⟩
  · exact ⟨_, _, _, rfl⟩
  · exact ⟨_, _, _, rfl⟩
theorem block_set (w : World) (T m i : Nat) (v : Value) (h : m < T) : (w.setCell ⟨T, i, none⟩ v).heap[m]? = w.heap[m]? := Below.heap_setCell w ⟨T, i, none⟩ v m (by show m ≠ T; omega)

set_option maxHeartbeats 2000000 in
theorem tour_meet_any {ad : Nat → Addr} {T m : Nat} (hmT : m < T) {again : Bool} {M : List Nat → Option Obj → Prop} {w : World} {first : Option Nat} {codes : Value} {xs : List Int} {seen : List Nat} (e : ErrT)
    (hx : xs.length ≤ 100000) (L : LaidB ad m w) (hS : Spine ad m w e) (hT : TourAt T m w again (fp first) codes xs) (hM : M seen w.heap[m]?)
    (HM : ∀ b g cap kids, leaf e = .many b g cap kids → ∀ (w1 : World) (f1 : Option Nat), Below m w w1 → LaidB ad m w1 → TourAt T m w1 again (fp f1) codes xs → M seen w1.heap[m]? →
      Calls Tryz.prog 77 #[.pointer (some ⟨T, 0, none⟩), .pointer (some ⟨b, 0, none⟩)] w1 fun ev w' => ev = .returned (.tuple #[]) ∧ Met ad T m again M w1 (f1.or (fst (leaf e))) (xs ++ cds (leaf e)) (mns (leaf e) ++ seen) w') :
    Calls Tryz.prog 65 #[.pointer (some ⟨T, 0, none⟩), val ad e] w fun ev w' => ev = .returned (.tuple #[]) ∧ Met ad T m again M w (first.or (fst e)) (xs ++ cds e) (mns e ++ seen) w' := by
  obtain ⟨i0, hi, hi3⟩ := Option.map_eq_some_iff.1 info_int
  simp only [Prod.mk.injEq] at hi3
  obtain ⟨hz0, hz1, hz2⟩ := hi3
  have HX : Hid (xs.length ≤ 100000) := hx
  have HMm : Aside (∀ b g cap kids, leaf e = .many b g cap kids → ∀ (w1 : World) (f1 : Option Nat), Below m w w1 → LaidB ad m w1 → TourAt T m w1 again (fp f1) codes xs → M seen w1.heap[m]? →
      Calls Tryz.prog 77 #[.pointer (some ⟨T, 0, none⟩), .pointer (some ⟨b, 0, none⟩)] w1 fun ev w' => ev = .returned (.tuple #[]) ∧ Met ad T m again M w1 (f1.or (fst (leaf e))) (xs ++ cds (leaf e)) (mns (leaf e) ++ seen) w') := HM
  clear hx HM
  go_enter Tryz.func65, Tryz.ntmps65
  go_wp2_with (go_at_call 54; refine (asFault_any L.laid e hS).mono ?_; rintro ev w1 ⟨rfl, hb1⟩)
  have hsz : T < w.heap.size := hT.lt
  have hb1m : Below m w w1 := hb1.mono (by omega)
  go_loopg [1, 4] (deep e) (fun k v f wr => ∃ (e' : ErrT) (f1 : Option Nat), k = deep e' ∧ v = val ad e' ∧ f = faultOf e' ∧ Aside (leaf e' = leaf e ∧ f1.or (fst e') = first.or (fst e) ∧ cds e' = cds e ∧ mns e' = mns e) ∧ Spine ad m wr e' ∧ Below m w wr ∧ LaidB ad m wr ∧ TourAt T m wr again (fp f1) codes xs ∧ M seen wr.heap[m]?)
  case atStart => exact ⟨e, first, rfl, rfl, rfl, ⟨rfl, rfl, rfl, rfl⟩, hS.below hb1m, hb1m, L.below hb1m, hT.below hb1, by rw [hb1.block m (by omega)]; exact hM⟩
  case round =>
    obtain ⟨e', f1, hgk, rfl, rfl, hA, hS', hbr, Lr, hTr, hMr⟩ := hrel
    clear hM hb1 hb1m L hS hT
    have hszr : T < wr.heap.size := hTr.lt
    have t0 : wr.cell? ⟨T, 0, none⟩ = some (.bool again) := by rw [cell_of_heap hTr.lies]; rfl
    have t1 : wr.cell? ⟨T, 1, none⟩ = some (fp f1) := by rw [cell_of_heap hTr.lies]; rfl
    have t2 : wr.cell? ⟨T, 2, none⟩ = some codes := by rw [cell_of_heap hTr.lies]; rfl
    have tf : ∀ i, wr.frozen? ⟨T, i, none⟩ = false := fun i => frozen_of_heap hTr.lies i
    cases e' with
    | fault b la ca at_ why =>
      obtain ⟨hbm, hbh, hne, hSw⟩ := hS'
      have c3 : wr.cell? ⟨b, 3, none⟩ = some (val ad why) := by rw [cell_of_heap hbh]; rfl
      cases f1 with
      | none =>
        have c3' : (wr.setCell ⟨T, 1, none⟩ (.pointer (some ⟨b, 0, none⟩))).cell? ⟨b, 3, none⟩ = some (val ad why) := by
          rw [cell_of_heap (w := wr.setCell ⟨T, 1, none⟩ (.pointer (some ⟨b, 0, none⟩))) (by rw [block_set wr T b 1 _ (by omega)]; exact hbh)]; rfl
        have hbs : Below m wr (wr.setCell ⟨T, 1, none⟩ (.pointer (some ⟨b, 0, none⟩))) := (Below.refl _ _).setCell (by show m ≤ T; omega) _
        have hTs := hTr.first (.pointer (some ⟨b, 0, none⟩))
        simp only [fp] at t1
        simp only [faultOf_fault]
        go_wp2_with (go_at_call 54; refine (asFault_any (Lr.below hbs).laid why (hSw.below hbs)).mono ?_; rintro ev w2 ⟨rfl, hb2⟩)
        have hb2m : Below m (wr.setCell ⟨T, 1, none⟩ (.pointer (some ⟨b, 0, none⟩))) w2 := hb2.mono (by have := hTs.lt; omega)
        go_roundg (deep why)
        case measure => rw [hgk]; simp [deep]
        case rel =>
          obtain ⟨a1, a2, a3, a4⟩ := hA.out
          exact ⟨why, some b, rfl, rfl, rfl, ⟨a1, by simpa [fst] using a2, a3, a4⟩, (hSw.below hbs).below hb2m, hbr.trans (hbs.trans hb2m), (Lr.below hbs).below hb2m, hTs.below hb2, by rw [hb2.block m (by have := hTs.lt; omega), block_set wr T m 1 _ hmT]; exact hMr⟩
      | some b1 =>
        simp only [fp] at t1
        simp only [faultOf_fault]
        go_wp2_with (go_at_call 54; refine (asFault_any Lr.laid why hSw).mono ?_; rintro ev w2 ⟨rfl, hb2⟩)
        have hb2m : Below m wr w2 := hb2.mono (by omega)
        go_roundg (deep why)
        case measure => rw [hgk]; simp [deep]
        case rel =>
          obtain ⟨a1, a2, a3, a4⟩ := hA.out
          exact ⟨why, some b1, rfl, rfl, rfl, ⟨a1, by simpa [fst] using a2, a3, a4⟩, hSw.below hb2m, hbr.trans hb2m, Lr.below hb2m, hTr.below hb2, by rw [hb2.block m (by omega)]; exact hMr⟩
    | none =>
      simp only [faultOf_none, val_none]
      go_wp2_with (first | (go_at_call 55; refine (asMany_nil _).mono ?_; rintro ev w2 ⟨rfl, hb2⟩) | (go_at_call 78; refine (number_nil ((Lr.laid).below hb2)).mono ?_; rintro ev w3 ⟨rfl, hb3⟩))
      go_end0
      obtain ⟨a1, a2, a3, a4⟩ := hA.out
      have hb := bgoE hb2 hb3
      have hbm : Below m wr w3 := hb.mono (by omega)
      refine ⟨rfl, hbr.trans hbm, Lr.below hbm, ⟨codes, ?_⟩, ?_⟩
      · rw [← a2, ← a3]; simpa [fst, cds] using hTr.below hb
      · rw [← a4, hb.block m (by omega)]; simpa [mns] using hMr
    | rsn k =>
      have hk : k < 14 := hS'
      simp only [faultOf_rsn, val_rsn]
      by_cases h13 : k < 13
      · have hne0 : ((k : Int) + 1 != 0) = true := by simp; omega
        go_wp2_with (first | (go_at_call 55; refine (asMany_s _ _ Lr.laid.et).mono ?_; rintro ev w2 ⟨rfl, hb2⟩) | (go_at_call 78; refine (number_yes ((Lr.laid).below hb2) k h13).mono ?_; rintro ev w3 ⟨rfl, hb3⟩; have hT3 := (hTr.below hb2).below hb3; have u2 : w3.cell? ⟨T, 2, none⟩ = some codes := by (rw [cell_of_heap hT3.lies]; rfl)) | (at_builtin; refine wpList_append_own _ rfl _ _ 35 rfl (T + 1) 3 i0 (.int .i64 0) 1 8 Tryz.underlying35 hi hz0 hz1 hz2 rfl (by decide) _ _ _ rfl (hT3.own.alloc _) ⟨w3.heap.size, 0, none⟩ 1 1 [.int .i64 ((k : Int) + 1)] rfl rfl ?c1 ?c2 ?c3 ?c4 ?c5 ?_))
        case c1 => exact cell_one_new _ _ _
        case c2 => intro u hu; simp at hu; subst hu; rfl
        case c3 => have := HX.out; unfold maxLen; omega
        case c4 => have := HX.out; omega
        case c5 => have := hT3.lt; simp; omega
        intro v0 w4 hown0 hgr hnn
        clear hnn
        obtain ⟨va, vn, vc, hv'⟩ := owns_slice hown0
        rw [hv'] at hown0 ⊢
        clear hv'
        have hTa := hT3.alloc (.cells #[.int .i64 ((k : Int) + 1)] 3)
        have x2 : w4.cell? ⟨T, 2, none⟩ = some codes := by rw [cell_of_heap (hTa.grown hgr)]; rfl
        have xf : w4.frozen? ⟨T, 2, none⟩ = false := frozen_of_heap (hTa.grown hgr) 2
        go_wp2
        go_end0
        obtain ⟨a1, a2, a3, a4⟩ := hA.out
        have hb := bal (bgoE hb2 hb3) (.cells #[.int .i64 ((k : Int) + 1)] 3)
        have hbm : Below m wr (w3.alloc (.cells #[.int .i64 ((k : Int) + 1)] 3)) := hb.mono (by omega)
        have hbg : Below m (w3.alloc (.cells #[.int .i64 ((k : Int) + 1)] 3)) w4 := below_grown hgr hTa.own (by omega) hTa.lt
        have hall : Below m wr (w4.setCell ⟨T, 2, none⟩ (.slice va vn vc)) := (hbm.trans hbg).setCell (by show m ≤ T; omega) _
        refine ⟨rfl, hbr.trans hall, Lr.below hall, ⟨.slice va vn vc, ?_⟩, ?_⟩
        · rw [← a2, ← a3]
          have := hTa.codes (ys := xs ++ [(k : Int) + 1]) hgr (by simpa using hown0)
          simpa [fst, cds, h13] using this
        · rw [← a4, block_set w4 T m 2 _ hmT, hgr.block m (by have := hTa.lt; omega) (fun e => by have := (hTa.own.lt m e.symm).1; omega), hb.block m (by omega)]; simpa [mns] using hMr
      · have hk13 : k = 13 := by omega
        subst hk13
        go_wp2_with (first | (go_at_call 55; refine (asMany_s _ _ Lr.laid.et).mono ?_; rintro ev w2 ⟨rfl, hb2⟩) | (go_at_call 78; refine (number_other ((Lr.laid).below hb2)).mono ?_; rintro ev w3 ⟨rfl, hb3⟩))
        go_end0
        obtain ⟨a1, a2, a3, a4⟩ := hA.out
        have hb := bgoE hb2 hb3
        have hbm : Below m wr w3 := hb.mono (by omega)
        refine ⟨rfl, hbr.trans hbm, Lr.below hbm, ⟨codes, ?_⟩, ?_⟩
        · rw [← a2, ← a3]; simpa [fst, cds] using hTr.below hb
        · rw [← a4, hb.block m (by omega)]; simpa [mns] using hMr
    | many b g cap kids =>
      simp only [faultOf_many, val_many]
      go_wp2_with (first | (go_at_call 55; refine (asMany_m _ _ Lr.laid.et).mono ?_; rintro ev w2 ⟨rfl, hb2⟩) | (go_at_call 77; refine (HMm.out b g cap kids hA.out.1.symm w2 f1 (hbr.trans (hb2.mono (by omega))) (Lr.below (hb2.mono (by omega))) (hTr.below hb2) (by rw [hb2.block m (by omega)]; exact hMr)).mono ?_; rintro ev w3 ⟨rfl, hm3⟩))
      go_end0
      obtain ⟨a1, a2, a3, a4⟩ := hA.out
      obtain ⟨h1, h2, ⟨cc, h3⟩, h4⟩ := hm3
      refine ⟨rfl, (hbr.trans (hb2.mono (by omega))).trans h1, h2, ⟨cc, ?_⟩, ?_⟩
      · rw [← a2, ← a3]; rw [← a1] at h3; simpa [leaf] using h3
      · rw [← a4]; rw [← a1] at h4; simpa [leaf] using h4
end Go.Proofs.YteffpnjgchihpaaGreatDoor
namespace Go.Proofs.YteffpnjgchihpaaGreatDoor
open Go.RowKit Go.Extern.Stop Go.Stop Go.Extern
set_option maxRecDepth 100000

/-- fault.goThrough at an error: the tour that it answers. -/
def ThroughV (v : Value) (f : Option Nat) (cs : List Int) (w : World) : Prop := ∀ again : Bool,
  Calls Tryz.prog 53 #[v, .bool again] w fun ev w' => ev = .returned (.pointer (some ⟨w.heap.size + 1, 0, none⟩)) ∧ Below w.heap.size w w' ∧ ∃ codes, TourAt (w.heap.size + 1) w.heap.size w' again (fp f) codes cs
theorem ThroughV.calls {v : Value} {f : Option Nat} {cs : List Int} {w : World} (h : ThroughV v f cs w) (again : Bool) :
    Calls Tryz.prog 53 #[v, .bool again] w fun ev w' => ev = .returned (.pointer (some ⟨w.heap.size + 1, 0, none⟩)) ∧ Below w.heap.size w w' ∧ ∃ codes, TourAt (w.heap.size + 1) w.heap.size w' again (fp f) codes cs := h again
abbrev Through (ad : Nat → Addr) (e : ErrT) (w : World) : Prop := ThroughV (val ad e) (fst e) (cds e) w

theorem laidB_of {ad : Nat → Addr} {w : World} (L : Laid ad w) : LaidB ad w.heap.size w := ⟨L, L.size, fun k hk => lt_of_cell (L.str k hk)⟩

set_option maxHeartbeats 400000 in
theorem through_of {ad : Nat → Addr} {M : List Nat → Option Obj → Prop} {w : World} (L : Laid ad w) (e : ErrT)
    (hmeet : ∀ (again : Bool) (W : World), Below w.heap.size w W → LaidB ad w.heap.size W → TourAt (w.heap.size + 1) w.heap.size W again (fp none) (.slice none 0 0) [] → W.heap[w.heap.size]? = some (.map #[] 0) →
      Calls Tryz.prog 65 #[.pointer (some ⟨w.heap.size + 1, 0, none⟩), val ad e] W fun ev w' => ev = .returned (.tuple #[]) ∧ Met ad (w.heap.size + 1) w.heap.size again M W (Option.or none (fst e)) ([] ++ cds e) (mns e ++ []) w') : Through ad e w := by
  intro again
  have hmm := @run_makeMap Tryz.prog
  have HMm : Aside (∀ (again : Bool) (W : World), Below w.heap.size w W → LaidB ad w.heap.size W → TourAt (w.heap.size + 1) w.heap.size W again (fp none) (.slice none 0 0) [] → W.heap[w.heap.size]? = some (.map #[] 0) →
      Calls Tryz.prog 65 #[.pointer (some ⟨w.heap.size + 1, 0, none⟩), val ad e] W fun ev w' => ev = .returned (.tuple #[]) ∧ Met ad (w.heap.size + 1) w.heap.size again M W (Option.or none (fst e)) ([] ++ cds e) (mns e ++ []) w') := hmeet
  clear hmeet
  go_enter Tryz.func53, Tryz.ntmps53
  go_wp2_with fail
  have hB : Below w.heap.size w ((w.alloc (.map #[] 0)).alloc (.cells #[.bool again, .pointer none, .slice none 0 0, .map (some w.heap.size)] 100)) := bal (below_oneE _ _) _
  have hsz1 : (w.alloc (.map #[] 0)).heap.size = w.heap.size + 1 := by simp
  have hT : TourAt (w.heap.size + 1) w.heap.size ((w.alloc (.map #[] 0)).alloc (.cells #[.bool again, .pointer none, .slice none 0 0, .map (some w.heap.size)] 100)) again (fp none) (.slice none 0 0) [] :=
    ⟨by rw [← hsz1]; exact heap_alloc_last _ _, World.ownsRow_nil _ _ _ _⟩
  have hmp : ((w.alloc (.map #[] 0)).alloc (.cells #[.bool again, .pointer none, .slice none 0 0, .map (some w.heap.size)] 100)).heap[w.heap.size]? = some (.map #[] 0) := by
    rw [Below.heap_alloc _ _ _ (by rw [hsz1]; omega)]; exact heap_alloc_last _ _
  refine (HMm.out again _ hB ((laidB_of L).below hB) hT hmp).mono ?_
  rintro ev w2 ⟨rfl, hm2⟩
  clear hT hmp hsz1
  go_wp2
  go_ret
  obtain ⟨h1, _, ⟨cc, h3⟩, _⟩ := hm2
  exact ⟨rfl, hB.trans h1, cc, by simpa using h3⟩

/-- P1.4: Code. -/
def codeOf : ErrT → Int
  | .none => 0
  | e => (cds e).headD 99

theorem codeOf_ne {e : ErrT} (h : e ≠ .none) : codeOf e = (cds e).headD 99 := by
  cases e <;> first | exact absurd rfl h | rfl

theorem code_nil (w : World) : Calls Tryz.prog 35 #[.nilIface] w fun ev w' => ev = .returned (.int .i64 0) ∧ w' = w := by
  go_enter Tryz.func35, Tryz.ntmps35
  go_wp2
  go_ret
  exact ⟨rfl, rfl⟩

theorem tour_nil {T m : Nat} {w : World} {again : Bool} {f cc : Value} (h : TourAt T m w again f cc []) : ∃ ca cp, w.cell? ⟨T, 2, none⟩ = some (.slice ca 0 cp) := by
  have t2 : w.cell? ⟨T, 2, none⟩ = some cc := by rw [cell_of_heap h.lies]; rfl
  rcases h.own.2 with ⟨rfl, _⟩ | ⟨g, cap, cur, rfl, _⟩ <;> exact ⟨_, _, t2⟩
theorem tour_cons {T m : Nat} {w : World} {again : Bool} {f cc : Value} {x : Int} {r : List Int} (h : TourAt T m w again f cc (x :: r)) :
    ∃ g cp, w.cell? ⟨T, 2, none⟩ = some (.slice (some ⟨g, 0, none⟩) (r.length + 1) cp) ∧ w.cell? ⟨g, 0, none⟩ = some (.int .i64 x) := by
  have t2 : w.cell? ⟨T, 2, none⟩ = some cc := by rw [cell_of_heap h.lies]; rfl
  rcases h.own.2 with ⟨_, h0⟩ | ⟨g, cap, cur, rfl, _⟩
  · simp at h0
  · refine ⟨g, cap, t2, ?_⟩
    have := h.own.cellAt 0 (by simp)
    simpa using this

set_option maxHeartbeats 400000 in
theorem code_any {ad : Nat → Addr} {w : World} (e : ErrT) (hne : e ≠ .none) (hth : Through ad e w) :
    Calls Tryz.prog 35 #[val ad e] w fun ev w' => ev = .returned (.int .i64 (codeOf e)) ∧ Below w.heap.size w w' := by
  rw [codeOf_ne hne]
  obtain ⟨t, v, hv⟩ := val_iface ad hne
  have HTa : Aside (ThroughV (val ad e) (fst e) (cds e) w) := hth
  rw [hv] at HTa ⊢
  clear hth hv
  match hc : cds e with
  | [] =>
    rw [hc] at HTa
    go_enter Tryz.func35, Tryz.ntmps35
    go_wp2_with (go_at_call 53; refine (HTa.out.calls false).mono ?_; rintro ev w2 ⟨rfl, hb2, cc, hT2⟩; obtain ⟨ca, cp, t2⟩ := tour_nil hT2)
    go_ret
    exact ⟨by simp, hb2⟩
  | x :: r =>
    rw [hc] at HTa
    have hl0 : (((r.length : Int) + 1) == 0) = false := by simp; omega
    go_enter Tryz.func35, Tryz.ntmps35
    go_wp2_with (go_at_call 53; refine (HTa.out.calls false).mono ?_; rintro ev w2 ⟨rfl, hb2, cc, hT2⟩; obtain ⟨g, cp, t2, hx0⟩ := tour_cons hT2)
    go_show
    go_ret
    exact ⟨by simp, hb2⟩

/-- An error without a Many: a row of Faults around a reason, or none. -/
def Plain (e : ErrT) : Prop := ∀ b g cap kids, leaf e ≠ .many b g cap kids

theorem through_plain {ad : Nat → Addr} {w : World} (L : Laid ad w) (e : ErrT) (hp : Plain e) (hS : Spine ad w.heap.size w e) : Through ad e w :=
  through_of (M := fun _ _ => True) L e fun again W hB hL hT _ =>
    tour_meet_any (by omega) e (by simp) hL (hS.below hB) hT trivial fun b g cap kids h => absurd h (hp b g cap kids)
end Go.Proofs.YteffpnjgchihpaaGreatDoor
namespace Go.Proofs.YteffpnjgchihpaaGreatDoor
open Go.RowKit Go.Extern.Stop Go.Stop Go.Extern
set_option maxRecDepth 100000

/-- A slice of n elements of 'size' cells each, read off memory; nil where there is none. -/
def SlAt (w : World) (v : Value) (size n : Nat) (cs : List Value) : Prop :=
  cs.length = n * size ∧ ((n = 0 ∧ ∃ a c, v = .slice a 0 c) ∨ ∃ g o c, v = .slice (some ⟨g, o, none⟩) n c ∧ g < w.heap.size ∧ ∀ j u, cs[j]? = some u → w.cell? ⟨g, o + j, none⟩ = some u)

theorem SlAt.below {w w' : World} {v : Value} {size n : Nat} {cs : List Value} (h : SlAt w v size n cs) (hb : Below w.heap.size w w') : SlAt w' v size n cs := by
  obtain ⟨h1, h2⟩ := h
  refine ⟨h1, ?_⟩
  rcases h2 with h2 | ⟨g, o, c, rfl, hg, hc⟩
  · exact .inl h2
  · exact .inr ⟨g, o, c, rfl, by have := hb.size; omega, fun j u hu => by rw [hb.cell (p := ⟨g, o + j, none⟩) hg]; exact hc j u hu⟩

theorem SlAt.of_owns {w : World} {B : Nat} {e : TypeId} {size n : Nat} {v : Value} {cs : List Value} (h : w.ownsRow B e size v n cs) : SlAt w v size n cs := by
  refine ⟨h.1, ?_⟩
  rcases h.2 with ⟨rfl, h0⟩ | ⟨g, cap, cur, rfl, hB, hg, _, _, _, ht⟩
  · exact .inl ⟨h0, _, _, rfl⟩
  · refine .inr ⟨g, 0, cap, rfl, (Array.getElem?_eq_some_iff.1 hg).1, fun j u hu => ?_⟩
    rw [Nat.zero_add, cell_of_heap hg]
    rw [← ht, List.getElem?_take] at hu
    split at hu
    · simpa using hu
    · cases hu

/-- The numbers as cells. -/
def ints (xs : List Int) : List Value := xs.map (Value.int .i64 ·)

set_option maxHeartbeats 1000000 in
theorem ints_eq {w : World} {v u : Value} {xs : List Int} (hv : SlAt w v 1 xs.length (ints xs)) (hu : SlAt w u 1 xs.length (ints xs)) (hn : xs.length ≤ 1000000) :
    Calls Tryz.prog 38 #[v, u] w fun e w' => e = .returned (.bool true) ∧ Below w.heap.size w w' := by
  have zero : ∀ (a b : Option Addr) (c d : Nat), Calls Tryz.prog 38 #[.slice a 0 c, .slice b 0 d] w fun e w' => e = .returned (.bool true) ∧ Below w.heap.size w w' := by
    intro a b c d
    clear hv hu
    go_enter Tryz.func38, Tryz.ntmps38
    go_wp2
    refine wp_loop_rounds 1 ?_
    rw [rounds_succ]
    go_wp2
    go_ret
    exact ⟨rfl, Below.refl _ _⟩
  rcases hv.2 with ⟨h0, a, c, rfl⟩ | ⟨g, o, c, rfl, hg, hc⟩ <;> rcases hu.2 with ⟨h0', a', c', rfl⟩ | ⟨g', o', c', rfl, hg', hc'⟩
  · exact zero _ _ _ _
  · rw [h0] at *; exact zero _ _ _ _
  · rw [h0'] at *; exact zero _ _ _ _
  · have HA : Aside ((∀ j x, (ints xs)[j]? = some x → w.cell? ⟨g, o + j, none⟩ = some x) ∧ ∀ j x, (ints xs)[j]? = some x → w.cell? ⟨g', o' + j, none⟩ = some x) := ⟨hc, hc'⟩
    clear zero hv hu hc hc'
    go_enter Tryz.func38, Tryz.ntmps38
    go_wp2
    go_loopw [5] (fun i wr => ∃ k n : Nat, i = .int .i64 (k : Int) ∧ k ≤ xs.length ∧ wr = w.drewN n) (fun i _ => xs.length - (intOf i).toNat)
    case atStart => exact ⟨0, 0, rfl, Nat.zero_le _, rfl⟩
    case round =>
      obtain ⟨k, n, rfl, hk, rfl⟩ := hrel
      by_cases hlt : k < xs.length
      · have hx : (ints xs)[k]? = some (.int .i64 xs[k]) := by simp [ints, hlt]
        have c1 := HA.out.1 k _ hx
        have c2 := HA.out.2 k _ hx
        have hki : (k : Int) < (xs.length : Int) := by omega
        generalize xs[k] = x at c1 c2
        clear hx
        go_wp2_with fail
        go_quiet (fail)
        go_wp2
        go_roundw
        case rel => exact ⟨k + 1, n + nq, by go_num, by omega, rfl⟩
        case measure => simp [intOf]; omega
      · have hki : ¬ (k : Int) < (xs.length : Int) := by omega
        go_wp2
        go_ret
        exact ⟨rfl, ⟨rfl, rfl, rfl, Nat.le_refl _, fun _ _ => rfl⟩⟩

/-- A link, and a row of links as cells. -/
structure Lnk where
  la : ByteArray
  ca : ByteArray
  at_ : Int
def lcells : List Lnk → List Value
  | [] => []
  | l :: r => .string l.la :: .string l.ca :: .int .i64 l.at_ :: lcells r
theorem lcells_len : ∀ l : List Lnk, (lcells l).length = l.length * 3
  | [] => rfl
  | _ :: r => by simp only [lcells, List.length_cons, lcells_len r]; omega
theorem lcells_at : ∀ (l : List Lnk) (k : Nat) (x : Lnk), l[k]? = some x → (lcells l)[k * 3]? = some (.string x.la) ∧ (lcells l)[k * 3 + 1]? = some (.string x.ca) ∧ (lcells l)[k * 3 + 2]? = some (.int .i64 x.at_)
  | [], k, x, h => by simp at h
  | y :: r, 0, x, h => by simp at h; subst h; exact ⟨rfl, rfl, rfl⟩
  | y :: r, k + 1, x, h => by
    have := lcells_at r k x (by simpa using h)
    have e : (k + 1) * 3 = k * 3 + 1 + 1 + 1 := by omega
    rw [e]
    simpa [lcells, Nat.add_right_comm] using this
theorem lcells_append : ∀ a b : List Lnk, lcells (a ++ b) = lcells a ++ lcells b
  | [], _ => rfl
  | x :: r, b => by simp [lcells, lcells_append r b]

set_option maxHeartbeats 1000000 in
theorem links_eq {w : World} {v u : Value} {xs : List Lnk} (hv : SlAt w v 3 xs.length (lcells xs)) (hu : SlAt w u 3 xs.length (lcells xs)) (hn : xs.length ≤ 1000000) :
    Calls Tryz.prog 36 #[v, u] w fun e w' => e = .returned (.bool true) ∧ Below w.heap.size w w' := by
  have zero : ∀ (a b : Option Addr) (c d : Nat), Calls Tryz.prog 36 #[.slice a 0 c, .slice b 0 d] w fun e w' => e = .returned (.bool true) ∧ Below w.heap.size w w' := by
    intro a b c d
    clear hv hu
    go_enter Tryz.func36, Tryz.ntmps36
    go_wp2
    refine wp_loop_rounds 1 ?_
    rw [rounds_succ]
    go_wp2
    go_ret
    exact ⟨rfl, Below.refl _ _⟩
  rcases hv.2 with ⟨h0, a, c, rfl⟩ | ⟨g, o, c, rfl, hg, hc⟩ <;> rcases hu.2 with ⟨h0', a', c', rfl⟩ | ⟨g', o', c', rfl, hg', hc'⟩
  · exact zero _ _ _ _
  · rw [h0] at *; exact zero _ _ _ _
  · rw [h0'] at *; exact zero _ _ _ _
  · have HA : Aside ((∀ j x, (lcells xs)[j]? = some x → w.cell? ⟨g, o + j, none⟩ = some x) ∧ ∀ j x, (lcells xs)[j]? = some x → w.cell? ⟨g', o' + j, none⟩ = some x) := ⟨hc, hc'⟩
    clear zero hv hu hc hc'
    go_enter Tryz.func36, Tryz.ntmps36
    go_wp2
    go_loopw [5] (fun i wr => ∃ k n : Nat, i = .int .i64 (k : Int) ∧ k ≤ xs.length ∧ wr = w.drewN n) (fun i _ => xs.length - (intOf i).toNat)
    case atStart => exact ⟨0, 0, rfl, Nat.zero_le _, rfl⟩
    case round =>
      obtain ⟨k, n, rfl, hk, rfl⟩ := hrel
      by_cases hlt : k < xs.length
      · obtain ⟨e0, e1, e2⟩ := lcells_at xs k xs[k] (by simp [hlt])
        have hki : (k : Int) < (xs.length : Int) := by omega
        have c10 : w.cell? ⟨g, o + k * 3, none⟩ = some (.string (xs[k]).la) := HA.out.1 _ _ e0
        have c11 : w.cell? ⟨g, o + k * 3 + 1, none⟩ = some (.string (xs[k]).ca) := HA.out.1 _ _ e1
        have c12 : w.cell? ⟨g, o + k * 3 + 2, none⟩ = some (.int .i64 (xs[k]).at_) := HA.out.1 _ _ e2
        have c20 : w.cell? ⟨g', o' + k * 3, none⟩ = some (.string (xs[k]).la) := HA.out.2 _ _ e0
        have c21 : w.cell? ⟨g', o' + k * 3 + 1, none⟩ = some (.string (xs[k]).ca) := HA.out.2 _ _ e1
        have c22 : w.cell? ⟨g', o' + k * 3 + 2, none⟩ = some (.int .i64 (xs[k]).at_) := HA.out.2 _ _ e2
        generalize xs[k] = x at c10 c11 c12 c20 c21 c22
        clear e0 e1 e2
        go_wp2_with fail
        go_quiet (fail)
        go_wp2
        go_roundw
        case rel => exact ⟨k + 1, n + nq, by go_num, by omega, rfl⟩
        case measure => simp [intOf]; omega
      · have hki : ¬ (k : Int) < (xs.length : Int) := by omega
        go_wp2
        go_ret
        exact ⟨rfl, ⟨rfl, rfl, rfl, Nat.le_refl _, fun _ _ => rfl⟩⟩

/-- fault.Codes: a list of the caller's own. -/
theorem codes_any {v : Value} {f : Option Nat} {cs : List Int} {w : World} (hth : ThroughV v f cs w) :
    Calls Tryz.prog 39 #[v] w fun e w' => ∃ r, e = .returned r ∧ w'.ownsRow w.heap.size 3 1 r cs.length (ints cs) ∧ Below w.heap.size w w' := by
  have HT : Aside (ThroughV v f cs w) := hth
  clear hth
  go_enter Tryz.func39, Tryz.ntmps39
  go_wp2_with (go_at_call 53; refine (HT.out.calls true).mono ?_; rintro ev w2 ⟨rfl, hb2, cc, hT2⟩; have t2 : w2.cell? ⟨w.heap.size + 1, 2, none⟩ = some cc := by (rw [cell_of_heap hT2.lies]; rfl))
  go_ret
  refine ⟨_, rfl, ⟨hT2.own.1, ?_⟩, hb2⟩
  rcases hT2.own.2 with h | ⟨g, cap, cur, h1, h2, h3⟩
  · exact .inl h
  · exact .inr ⟨g, cap, cur, h1, by omega, h3⟩
end Go.Proofs.YteffpnjgchihpaaGreatDoor
