/-
  (*tree.Tree).Find; barrowlaw04.begun, wakes.
-/
import Derived.Test.YtppfgmggcihmoaaGreatDoorTrPass
namespace Go.Proofs.YtppfgmggcihmoaaGreatDoor
open Go.RowKit
set_option maxRecDepth 100000

theorem field_live (x y : Int) (w : World) : (Instr.field 42 (.agg #[.int .i64 x, .int .i64 y]) 0).run Tryz.prog w = .ok (.int .i64 x) w := by kernel_rfl
set_option maxHeartbeats 1000000 in
theorem find_ok {R : Rows} {b ch : Nat} {t : Nd} {w : World} (k : Int) (h1 : RowAt b #[.int .i64 (ch : Int), pv t.blk] 76 w) (h2 : t.At R w) (h3 : t.Full) (hn : t.els.length ≤ 1073741824) (hk0 : 0 ≤ k) (hk1 : k < liveL t.els) :
    Calls Tryz.prog 16 #[pv b, .int .i64 k] w fun r w' => r = .returned (.tuple #[.int .i64 (idxL t.els k : Int), .nilIface]) ∧ Below w.heap.size w w' := by
  have HW := hid_of' (weightT_some h1 h2)
  have HP : Hid (∀ x, Below w.heap.size w x → _) := fun x hx => passed_live t k x (h2.later hx) h3 hn hk0 hk1
  have HH := hid_of' h1
  have hfl := field_live (liveL t.els) (lineL t.els)
  have e1 : ¬ k < 0 := by omega
  have e2 : ¬ liveL t.els ≤ k := by omega
  unfold pv wv at *
  clear h2 h3
  go_enter Tryz.func16, Tryz.ntmps16
  go_wp2_with (first | (go_at_call 18; refine HW.out.mono ?_; rintro r w1 ⟨rfl, hb1⟩; have c1 : w1.cell? ⟨b, 1, none⟩ = some (.pointer (some ⟨t.blk, 0, none⟩)) := (HH.out.later hb1).cell 1) | (go_at_call 40; refine (HP.out _ hb1).mono ?_; rintro r w2 ⟨rfl, hb2⟩))
  go_ret2
  exact ⟨rfl, bgo hb1 hb2⟩

theorem CsIn.otherP {b off : Nat} {cs : Array Value} {w : World} (h : CsIn b off cs w) (a : Addr) (v : Value) (hn : ¬ b = a.block) : CsIn b off cs (w.setCell a v) :=
  ⟨by simpa using h.1, fun j u hu => by rw [World.cell?_of_block (a := ⟨b, off + j, none⟩) (Below.heap_setCell _ _ _ _ hn)]; exact h.2 j u hu⟩
theorem RowAt.otherP {b : Nat} {cs : Array Value} {t : TypeId} {w : World} (h : RowAt b cs t w) (a : Addr) (v : Value) (hn : ¬ b = a.block) : RowAt b cs t (w.setCell a v) := by unfold RowAt at *; rw [Below.heap_setCell _ _ _ _ hn]; exact h
/-- A tree's nodes and leaves lie in no block of two cells. -/
theorem Nd.At.put {R : Rows} {b : Nat} {c0 c1 : Value} {ty : TypeId} (v : Value) : ∀ {t : Nd} {w : World}, t.At R w → t.Full → RowAt b #[c0, c1] ty w → t.At R (w.setCell ⟨b, 1, none⟩ v)
  | .leaf b' g o_ c l, w, h, hf, hr => by
    have n1 : ¬ b' = b := fun e => by
      have := h.1
      unfold RowAt at this hr
      rw [e, hr] at this
      simp [ndc] at this
    have n2 : ¬ g = b := fun e => by
      obtain ⟨x, l', rfl⟩ := List.exists_cons_of_ne_nil hf
      have h4 := (h.2.1 0 x rfl).2 4 _ rfl
      rw [e, hr.cell] at h4
      rw [show (#[c0, c1] : Array Value)[o_ + 0 * 5 + 4]? = none from Array.getElem?_eq_none (by simp)] at h4
      cases h4
    exact ⟨h.1.otherP _ _ n1, fun i e he => (h.2.1 i e he).otherP _ _ n2, h.2.2.1, h.2.2.2.1, h.2.2.2.2.1, by simpa using h.2.2.2.2.2⟩
  | .inner b' x y, w, h, hf, hr => by
    have n1 : ¬ b' = b := fun e => by
      have := h.1
      unfold RowAt at this hr
      rw [e, hr] at this
      simp [ndc] at this
    exact ⟨h.1.otherP _ _ n1, Nd.At.put v h.2.1 hf.1 hr, Nd.At.put v h.2.2 hf.2 hr⟩
theorem heap_setCell_at {w : World} {b : Nat} {cs : Array Value} {t : TypeId} (h : w.heap[b]? = some (.cells cs t (0, 0))) (i : Nat) (v : Value) : (w.setCell ⟨b, i, none⟩ v).heap[b]? = some (.cells (cs.setIfInBounds i v) t (0, 0)) := by
  simp [World.setCell, Array.getElem?_modify, h]
theorem RowAt.putCell {b : Nat} {c0 c1 : Value} {ty : TypeId} {w : World} (h : RowAt b #[c0, c1] ty w) (v : Value) : RowAt b #[c0, v] ty (w.setCell ⟨b, 1, none⟩ v) := by
  have := heap_setCell_at h 1 v
  exact this

set_option maxHeartbeats 1000000 in
theorem within0 (w : World) : Calls Tryz.prog 7 #[.int .i64 0, .int .i64 63] w fun r w' => r = .returned (.int .i64 0) ∧ w' = w := by
  go_enter Tryz.func7, Tryz.ntmps7
  go_wp2
  go_ret
  exact ⟨rfl, rfl⟩
set_option maxHeartbeats 1000000 in
theorem begun0 (w : World) : Calls Tryz.prog 6 #[.int .i64 0] w fun r w' => ∃ pb tb, r = .returned (pv pb) ∧ w.heap.size ≤ tb ∧ tb < pb ∧ RowAt pb #[pv tb, .slice none 0 0, .int .i64 2] 34 w' ∧ RowAt tb #[.int .i64 2, .pointer none] 76 w' ∧ Below w.heap.size w w' := by
  have HN := hid_of' (new_ok 2 w (by decide) (by decide))
  unfold pv at *
  go_enter Tryz.func6, Tryz.ntmps6
  go_wp2_with (first | (go_at_call 7; refine (within0 _).mono ?_; rintro r w1 ⟨rfl, hw⟩; obtain rfl := hw.symm) | (go_at_call 19; refine HN.out.mono ?_; rintro r w1 ⟨rfl, hr1, hb1⟩))
  go_ret
  have hlt := hr1.lt
  exact ⟨w1.heap.size, w.heap.size, rfl, Nat.le_refl _, hlt, row_new w1 _ _, hr1.later (below_one _ _), bgo hb1 (below_one _ _)⟩

def ea : El := ⟨0, 0, 0, 97, 0⟩
def eb : El := ⟨0, 0, 0, 98, 1⟩
def ec : El := ⟨0, 0, 0, 99, 0⟩
theorem sl_new (w : World) (l : List El) (n c : Nat) (hn : l.length = n) : SlE (w.alloc (.cells (ecells l).toArray 39)) (.slice (some ⟨w.heap.size, 0, none⟩) n c) l := by
  subst hn
  have hr := row_new w (ecells l).toArray 39
  exact .inr ⟨w.heap.size, 0, c, rfl, els_of_cells hr.lt fun j u hu => by rw [Nat.zero_add, hr.cell]; simpa using hu⟩
set_option maxHeartbeats 4000000 in
theorem wakesT_ok (w : World) : Calls Tryz.prog 12 #[] w fun r w' => r = .returned (.bool true) ∧ Below w.heap.size w w' := by
  have HB := hid_of' (begun0 w)
  unfold pv at HB
  go_enter Tryz.func12, Tryz.ntmps12
  go_upto_region 2 with (go_at_call 6; refine HB.out.mono ?_; rintro r w1 ⟨pb, tb, rfl, k1, k2, hp, ht, hb1⟩; clear HB)
  have c0 : w1.cell? ⟨pb, 0, none⟩ = some (.pointer (some ⟨tb, 0, none⟩)) := hp.cell 0
  have HI := hid_of' (insert_nil (R := R0) tb 2 [ea, eb, ec] (.slice (some ⟨w1.heap.size, 0, none⟩) 3 3) (w1.alloc (.cells (ecells [ea, eb, ec]).toArray 39)) (ht.later (below_one _ _)) (sl_new w1 [ea, eb, ec] 3 3 rfl) (by decide) (by simp) (by decide) (by decide) (Nat.zero_le _))
  simp only [ecells, ea, eb, ec, pv] at HI
  go_upto_region 4 with (go_at_call 21; refine HI.out.mono ?_; rintro r w2' ⟨rfl, w2, t, rfl, hb2, a1, a2, a3⟩; clear HI)
  have hp3 := ((hp.later (below_one _ _)).later hb2).otherP ⟨tb, 1, none⟩ (pv t.blk) (by show ¬ pb = tb; omega)
  have ht3 := ((ht.later (below_one _ _)).later hb2).putCell (pv t.blk)
  have at3 := a1.put (pv t.blk) a2 ((ht.later (below_one _ _)).later hb2)
  have hB3 := (bgo (bgo hb1 (below_one _ _)) hb2).setCell (p := ⟨tb, 1, none⟩) k1 (pv t.blk)
  have hlen : t.els.length = 3 := by rw [a3]; rfl
  have hlive : liveL t.els = 2 := by rw [a3]; rfl
  have hidx : idxL t.els 1 = 2 := by rw [a3]; rfl
  unfold pv at hp3 ht3 at3 hB3
  clear a1 a3 hb2 hb1 hp ht c0
  generalize w2.setCell ⟨tb, 1, none⟩ (.pointer (some ⟨t.blk, 0, none⟩)) = W3 at *
  have c0 : W3.cell? ⟨pb, 0, none⟩ = some (.pointer (some ⟨tb, 0, none⟩)) := hp3.cell 0
  have HF := hid_of' (find_ok (ch := 2) 1 ht3 at3 a2 (by rw [hlen]; decide) (by decide) (by rw [hlive]; decide))
  rw [hidx] at HF
  have HL : Hid (∀ x, Below W3.heap.size W3 x → _) := fun x hx => len_any (b := tb) (ch := 2) (.inr ⟨t, ht3.later hx, at3.later hx, a2, rfl⟩)
  have HW : Hid (∀ x, Below W3.heap.size W3 x → _) := fun x hx => weightT_some (b := tb) (ch := 2) (ht3.later hx) (at3.later hx)
  rw [hlen] at HL
  rw [hlive] at HW
  unfold pv wv at *
  have HP3 := hid_of' hp3
  have hfl := field_live 2 (lineL t.els)
  clear hp3 ht3 at3 a2 hlen hlive hidx k1 k2
  go_upto_region 5 with (go_at_call 16; refine HF.out.mono ?_; rintro r w4 ⟨rfl, hb4⟩; clear HF)
  have c4 : w4.cell? ⟨pb, 0, none⟩ = some (.pointer (some ⟨tb, 0, none⟩)) := (HP3.out.later hb4).cell 0
  go_wp2_with (first | (go_at_call 11; refine (HL.out _ hb4).mono ?_; rintro r w5 ⟨rfl, hw⟩; obtain rfl := hw.symm) | (go_at_call 18; refine (HW.out _ hb4).mono ?_; rintro r w5 ⟨rfl, hb5⟩))
  go_ret
  exact ⟨rfl, bgo (bgo hB3 hb4) hb5⟩
end Go.Proofs.YtppfgmggcihmoaaGreatDoor
