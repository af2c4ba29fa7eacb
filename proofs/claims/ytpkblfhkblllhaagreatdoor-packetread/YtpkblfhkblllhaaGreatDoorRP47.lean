
/-
  barrowref01.Wrap of a refusal that has a link.
-/
import Derived.Test.YtpkblfhkblllhaaGreatDoorRP46
namespace Go.Proofs.YtpkblfhkblllhaaGreatDoor
open Go.RowKit Go.Extern.Stop Go.Stop Go.Extern
set_option maxRecDepth 100000

/-- A link's cells. -/
def ls1 (la ca : ByteArray) (p : Nat) : List Value := [.string la, .string ca, .int .i64 (p : Int)]
theorem ls1_one (la ca : ByteArray) (p : Nat) : ∀ y ∈ ls1 la ca p, y.oneCell' = true := by simp [ls1, Value.oneCell']
/-- A row of two links, new since W. -/
def RwK (W : World) (r : Value) (xs : List Value) (w : World) : Prop := Rw 105 3 r (1 + 1) xs w ∧ ∀ k, r.ownBlock = some k → W.heap.size ≤ k
theorem RwK.later {W w w' : World} {r : Value} {xs : List Value} (h : RwK W r xs w) (hb : Below w.heap.size w w') : RwK W r xs w' := ⟨h.1.later hb, h.2⟩
theorem RwK.form {W w : World} {r : Value} {xs : List Value} (h : RwK W r xs w) : ∃ a c, r = .slice a (1 + 1) c := by
  obtain ⟨a, c, e, _⟩ := h.1.form
  exact ⟨a, c, e⟩
theorem info_lnk : (Tryz.prog.info? 105).map (fun i => (i.zero, i.size, i.bytes)) = some (some (.agg #[.string ⟨#[]⟩, .string ⟨#[]⟩, .int .i64 0]), 3, 40) := by kernel_rfl
theorem so_lnk {g : Nat} {la ca : ByteArray} {p : Nat} {w : World} (h : RowAt g #[.string la, .string ca, .int .i64 (p : Int)] 105 w) : So 3 (.slice (some ⟨g, 0, none⟩) 1 1) 1 (ls1 la ca p) w :=
  ⟨rfl, .inr ⟨_, _, rfl, fun j u hj => by
    rw [Addr.add_lit, Nat.zero_add, h.cell]
    simpa [ls1] using hj⟩⟩
theorem Rw.rowN {e : TypeId} {size : Nat} {r : Value} {n : Nat} {xs : List Value} {w : World} (h : Rw e size r n xs w) (g : Nat) (c : Array Value) (hn : ∀ k, r.ownBlock = some k → ¬ k = g) : Rw e size r n xs (w.setRow g c) := by
  refine h.ch (S := fun k => k = g) ⟨rfl, rfl, rfl, by simp, fun k _ hk => setRow_other w g k c hk⟩ hn
set_option maxHeartbeats 4000000 in
theorem wrap_two (la ca la' ca' : ByteArray) (p p' : Nat) (code : Int) (g g' : Nat) {w : World} (hc : (code == 0) = false) (hl : RowAt g' #[.string la', .string ca', .int .i64 (p' : Int)] 105 w) :
    Calls Tryz.prog 41 #[.string la, .string ca, .int .i64 (p : Int), .agg #[.int .i64 code, .slice (some ⟨g', 0, none⟩) 1 1, .slice (some ⟨g, 0, none⟩) 1 1]] w fun e w' => ∃ r, e = .returned (.agg #[.int .i64 code, r, .slice (some ⟨g, 0, none⟩) 1 1]) ∧ RwK w r (ls1 la ca p ++ ls1 la' ca' p') w' ∧ Below w.heap.size w w' := by
  have hneg : ¬ (p : Int) < 0 := by omega
  have hB : Below w.heap.size w (((w.alloc (.cells #[.int .i64 code, .slice (some ⟨g', 0, none⟩) 1 1, .slice (some ⟨g, 0, none⟩) 1 1] 37)).alloc (.cells #[.int .i64 0, .slice none 0 0, .slice none 0 0] 37)).alloc (.cells #[.string la, .string ca, .int .i64 (p : Int)] 105)) := bgo (bgo (below_one w _) (below_one _ _)) (below_one _ _)
  have h0 : RowAt w.heap.size #[.int .i64 code, .slice (some ⟨g', 0, none⟩) 1 1, .slice (some ⟨g, 0, none⟩) 1 1] 37 (((w.alloc (.cells #[.int .i64 code, .slice (some ⟨g', 0, none⟩) 1 1, .slice (some ⟨g, 0, none⟩) 1 1] 37)).alloc (.cells #[.int .i64 0, .slice none 0 0, .slice none 0 0] 37)).alloc (.cells #[.string la, .string ca, .int .i64 (p : Int)] 105)) := (RowAt.new w _ _).later (bgo (below_one _ _) (below_one _ _))
  have h1 : RowAt (w.heap.size + 1) #[.int .i64 0, .slice none 0 0, .slice none 0 0] 37 (((w.alloc (.cells #[.int .i64 code, .slice (some ⟨g', 0, none⟩) 1 1, .slice (some ⟨g, 0, none⟩) 1 1] 37)).alloc (.cells #[.int .i64 0, .slice none 0 0, .slice none 0 0] 37)).alloc (.cells #[.string la, .string ca, .int .i64 (p : Int)] 105)) := by
    have := (RowAt.new (w.alloc (.cells #[.int .i64 code, .slice (some ⟨g', 0, none⟩) 1 1, .slice (some ⟨g, 0, none⟩) 1 1] 37)) #[.int .i64 0, .slice none 0 0, .slice none 0 0] 37).later (below_one _ (.cells #[.string la, .string ca, .int .i64 (p : Int)] 105))
    simpa using this
  have h2 : RowAt (w.heap.size + 1 + 1) #[.string la, .string ca, .int .i64 (p : Int)] 105 (((w.alloc (.cells #[.int .i64 code, .slice (some ⟨g', 0, none⟩) 1 1, .slice (some ⟨g, 0, none⟩) 1 1] 37)).alloc (.cells #[.int .i64 0, .slice none 0 0, .slice none 0 0] 37)).alloc (.cells #[.string la, .string ca, .int .i64 (p : Int)] 105)) := by
    have := RowAt.new ((w.alloc (.cells #[.int .i64 code, .slice (some ⟨g', 0, none⟩) 1 1, .slice (some ⟨g, 0, none⟩) 1 1] 37)).alloc (.cells #[.int .i64 0, .slice none 0 0, .slice none 0 0] 37)) #[.string la, .string ca, .int .i64 (p : Int)] 105
    simpa using this
  have hs : (((w.alloc (.cells #[.int .i64 code, .slice (some ⟨g', 0, none⟩) 1 1, .slice (some ⟨g, 0, none⟩) 1 1] 37)).alloc (.cells #[.int .i64 0, .slice none 0 0, .slice none 0 0] 37)).alloc (.cells #[.string la, .string ca, .int .i64 (p : Int)] 105)).heap.size = w.heap.size + 3 := by simp
  have hl3 := hl.later hB
  obtain ⟨i0, hi0, hz⟩ := Option.map_eq_some_iff.1 info_lnk
  simp only [Prod.mk.injEq] at hz
  have HZ := hid_of' (And.intro hi0 hz)
  clear hi0 hz
  go_enter Tryz.func41, Tryz.ntmps41
  go_upto_region 6 with fail
  generalize ((w.alloc (.cells #[.int .i64 code, .slice (some ⟨g', 0, none⟩) 1 1, .slice (some ⟨g, 0, none⟩) 1 1] 37)).alloc (.cells #[.int .i64 0, .slice none 0 0, .slice none 0 0] 37)).alloc (.cells #[.string la, .string ca, .int .i64 (p : Int)] 105) = wc at hB h0 h1 h2 hs hl3 ⊢
  have hrw : Rw 105 3 (.slice (some ⟨w.heap.size + 1 + 1, 0, none⟩) 1 1) 1 (ls1 la ca p) wc := ⟨rfl, .inr ⟨_, 1, _, rfl, h2, Nat.le_refl _, (by unfold maxLen; omega), Nat.le_refl _, rfl⟩⟩
  have hne : ¬ (Value.ownBlock (.slice (some ⟨w.heap.size + 1 + 1, 0, none⟩) 1 1)) = some w.heap.size := by simp [Value.ownBlock]; omega
  have HI := hid_of' (And.intro h0 (And.intro hrw (And.intro hl3 (And.intro hne (show w.heap.size ≤ wc.heap.size by omega)))))
  have H1 := hid_of' (And.intro h1 (And.intro hB hs))
  clear h0 hrw hne h1 hB hs h2 hl3 hl
  refine wp_region_once 8 (by kernel_rfl) (fun _ => none) (by kernel_rfl) (by kernel_rfl) (by decide) (fun i v x => match i with
    | 0 => v = .pointer (some ⟨w.heap.size, 0, none⟩)
    | 1 => v = .int .i64 code
    | 2 => v = .slice (some ⟨w.heap.size + 1 + 1, 0, none⟩) 1 1
    | 3 => v = .pointer (some ⟨w.heap.size, 1, none⟩)
    | 4 => v = .slice (some ⟨g', 0, none⟩) 1 1
    | 5 => RwK w v (ls1 la ca p ++ ls1 la' ca' p') x
    | 6 => v = .pointer (some ⟨w.heap.size, 2, none⟩)
    | 7 => v = .slice (some ⟨g, 0, none⟩) 1 1
    | _ => True) (fun _ => false) (fun _ _ _ _ h => by cases h) 5 (by decide) (fun a b => World.grownBy a b (Value.ownBlock (.slice (some ⟨w.heap.size + 1 + 1, 0, none⟩) 1 1))) (fun a b => World.grownBy a b (Value.ownBlock (.slice (some ⟨w.heap.size + 1 + 1, 0, none⟩) 1 1))) (fun _ _ g h => grown_later g h) (fun _ h => grown_of h) (fun _ _ h g => grown_first h g) (fun _ _ g => g.size) ?_ ?_ ?_ ?_
  · intro i v x x' hR hb
    match i, hR with
    | 0, h => exact h
    | 1, h => exact h
    | 2, h => exact h
    | 3, h => exact h
    | 4, h => exact h
    | 5, h => exact h.later hb
    | 6, h => exact h
    | 7, h => exact h
    | m + 8, h => exact h
  · intro i v x x' hne hR hb
    match i, hne, hR with
    | 0, hne, h => exact h
    | 1, hne, h => exact h
    | 2, hne, h => exact h
    | 3, hne, h => exact h
    | 4, hne, h => exact h
    | 5, hne, h => exact absurd rfl hne
    | 6, hne, h => exact h
    | 7, hne, h => exact h
    | m + 8, _, h => exact h
  · intro i o hi ho q x vals hX hC hdep hoth
    have t7 : q.tmps[7]? = some (.pointer (some ⟨w.heap.size, 0, none⟩)) := by rw [hoth 7 (by kernel_rfl)]; rfl
    have t9 : q.tmps[9]? = some (.slice (some ⟨w.heap.size + 1 + 1, 0, none⟩) 1 1) := by rw [hoth 9 (by kernel_rfl)]; rfl
    match i, hi, ho, hC with
    | 0, _, ho, hC =>
      simp only [List.getElem?_cons_zero, Option.some.injEq] at ho
      subst ho
      unfold Oper.wp
      simp [execOp, go_sem, t7]
      exact cameB _ rfl (by decide) (Below.refl _ _) rfl (fun h => absurd h (by decide))
    | 1, _, ho, hC =>
      simp only [List.getElem?_cons_succ, List.getElem?_cons_zero, Option.some.injEq] at ho
      subst ho
      obtain ⟨u0, e0⟩ := hdep ⟨0, .data⟩ (by simp) rfl _ 21 rfl rfl
      rw [show vals 0 = .pointer (some ⟨w.heap.size, 0, none⟩) from e0] at u0
      have cc : x.cell? ⟨w.heap.size, 0, none⟩ = some (.int .i64 code) := (RowAt.grow HI.out.1 hX HI.out.2.2.2.1).cell 0
      unfold Oper.wp
      simp [execOp, go_sem, u0, cc]
      exact cameB _ rfl (by decide) (Below.refl _ _) rfl (fun h => absurd h (by decide))
    | 2, _, ho, hC =>
      simp only [List.getElem?_cons_succ, List.getElem?_cons_zero, Option.some.injEq] at ho
      subst ho
      unfold Oper.wp
      simp [execOp, go_sem, t9]
      exact cameB _ rfl (by decide) (Below.refl _ _) rfl (fun h => absurd h (by decide))
    | 3, _, ho, hC =>
      simp only [List.getElem?_cons_succ, List.getElem?_cons_zero, Option.some.injEq] at ho
      subst ho
      unfold Oper.wp
      simp [execOp, go_sem, t7]
      exact cameB _ rfl (by decide) (Below.refl _ _) rfl (fun h => absurd h (by decide))
    | 4, _, ho, hC =>
      simp only [List.getElem?_cons_succ, List.getElem?_cons_zero, Option.some.injEq] at ho
      subst ho
      obtain ⟨u3, e3⟩ := hdep ⟨3, .data⟩ (by simp) rfl _ 24 rfl rfl
      rw [show vals 3 = .pointer (some ⟨w.heap.size, 1, none⟩) from e3] at u3
      have cc : x.cell? ⟨w.heap.size, 1, none⟩ = some (.slice (some ⟨g', 0, none⟩) 1 1) := (RowAt.grow HI.out.1 hX HI.out.2.2.2.1).cell 1
      unfold Oper.wp
      simp [execOp, go_sem, u3, cc]
      exact cameB _ rfl (by decide) (Below.refl _ _) rfl (fun h => absurd h (by decide))
    | 5, _, ho, hC =>
      simp only [List.getElem?_cons_succ, List.getElem?_cons_zero, Option.some.injEq] at ho
      subst ho
      obtain ⟨u2, e2⟩ := hdep ⟨2, .data⟩ (by simp) rfl _ 23 rfl rfl
      rw [show vals 2 = .slice (some ⟨w.heap.size + 1 + 1, 0, none⟩) 1 1 from e2] at u2
      obtain ⟨u4, e4⟩ := hdep ⟨4, .data⟩ (by simp) rfl _ 25 rfl rfl
      rw [show vals 4 = .slice (some ⟨g', 0, none⟩) 1 1 from e4] at u4
      have hb := hC (.inl rfl)
      refine opw_app (P := Tryz.prog) _ _ 34 rfl 105 i0 _ 3 40 Tryz.underlying34 HZ.out.1 HZ.out.2.1 HZ.out.2.2.1 HZ.out.2.2.2 rfl (by simp [Act.eval, u2]) (by simp [Act.eval, u4]) (HI.out.2.1.later hb) (so_lnk (HI.out.2.2.1.later hb)) (ls1_one _ _ _) (by unfold maxLen; omega) (by omega) ?_
      intro v' x' q1 q2 q3
      exact cameX _ rfl q2 ⟨q1, fun k hk => (q3 k hk).elim (fun q => by simp [Value.ownBlock] at q; omega) (fun q => by have := hb.size; have := HI.out.2.2.2.2; omega)⟩ rfl
    | 6, _, ho, hC =>
      simp only [List.getElem?_cons_succ, List.getElem?_cons_zero, Option.some.injEq] at ho
      subst ho
      unfold Oper.wp
      simp [execOp, go_sem, t7]
      exact cameB _ rfl (by decide) (Below.refl _ _) rfl (fun h => absurd h (by decide))
    | 7, _, ho, hC =>
      simp only [List.getElem?_cons_succ, List.getElem?_cons_zero, Option.some.injEq] at ho
      subst ho
      obtain ⟨u6, e6⟩ := hdep ⟨6, .data⟩ (by simp) rfl _ 27 rfl rfl
      rw [show vals 6 = .pointer (some ⟨w.heap.size, 2, none⟩) from e6] at u6
      have cc : x.cell? ⟨w.heap.size, 2, none⟩ = some (.slice (some ⟨g, 0, none⟩) 1 1) := (RowAt.grow HI.out.1 hX HI.out.2.2.2.1).cell 2
      unfold Oper.wp
      simp [execOp, go_sem, u6, cc]
      exact cameB _ rfl (by decide) (Below.refl _ _) rfl (fun h => absurd h (by decide))
    | m + 8, hi, _, _ => exact absurd hi (by omega)
  · intro vals x hX hR _
    have e1 : vals 1 = .int .i64 code := hR 1 (by decide)
    have e7 : vals 7 = .slice (some ⟨g, 0, none⟩) 1 1 := hR 7 (by decide)
    have hr : RwK w (vals 5) (ls1 la ca p ++ ls1 la' ca' p') x := hR 5 (by decide)
    obtain ⟨ra, rc, er⟩ := hr.form
    rw [er] at hr
    simp only [List.take, List.drop, putAll, e1, er, e7]
    simp only [List.setIfInBounds_toArray, List.set_cons_succ, List.set_cons_zero]
    have hx1 := RowAt.grow H1.out.1 hX (by simp [Value.ownBlock])
    have hsz := hX.size
    have hb : Below w.heap.size w x := H1.out.2.1.trans ⟨hX.os, hX.tape, hX.output, hX.size, fun k hk => hX.block k (by have := H1.out.2.2; omega) (by simp [Value.ownBlock]; omega)⟩
    have hrow : RowAt (w.heap.size + 1) (nov code ra (1 + 1) rc (some ⟨g, 0, none⟩) 1 1) 37 (x.setRow (w.heap.size + 1) (nov code ra (1 + 1) rc (some ⟨g, 0, none⟩) 1 1)) := setRow_heap _ _ _ _ _ _ hx1
    have hnk : ∀ k, (Value.slice ra (1 + 1) rc).ownBlock = some k → ¬ k = w.heap.size + 1 := fun k hk e => by
      subst e
      rcases hr.1.2 with ⟨_, e⟩ | ⟨gg, _, _, e, hgg, _⟩
      · omega
      · rw [e] at hk
        simp only [Value.ownBlock, Option.some.injEq] at hk
        subst hk
        unfold RowAt at hx1
        rw [hx1] at hgg
        simp at hgg
    have hr2 : RwK w (.slice ra (1 + 1) rc) (ls1 la ca p ++ ls1 la' ca' p') (x.setRow (w.heap.size + 1) (nov code ra (1 + 1) rc (some ⟨g, 0, none⟩) 1 1)) := ⟨hr.1.rowN _ _ hnk, hr.2⟩
    have HE := hid_of' (And.intro hr2 (below_setRow hb (Nat.le_succ _) (nov code ra (1 + 1) rc (some ⟨g, 0, none⟩) 1 1)))
    clear hr hR hr2 hb hnk
    go_wp2_with (refine wpL_storeNo rfl _ _ rfl rfl rfl hx1 ?_)
    exact bodyPost_ret (v := .agg (nov code ra (1 + 1) rc (some ⟨g, 0, none⟩) 1 1)) (results_cell_row rfl _ _ (w.heap.size + 1) _ _ _ _ rfl hrow Tryz.underlying37 rfl no_size) rfl ⟨_, rfl, HE.out.1, HE.out.2⟩
end Go.Proofs.YtpkblfhkblllhaaGreatDoor
