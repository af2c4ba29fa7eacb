
/-
  Bytes. Bytes. A region that draws its order, walked by an invariant over what has come up, what it has yielded and the world (over InvW).
-/
import Derived.Test.YteffpnjgchihpaaGreatDoorPB29
import Derived.Test.YteffpnjgchihpaaGreatDoorPB11
namespace Go.Proofs.YteffpnjgchihpaaGreatDoor
open Go.RowKit
set_option maxRecDepth 100000

/-- What an argument's numbers keep to. -/
structure bndM (m : Pms) : Prop where
  e : m.2.2.1 ≤ 9223372036854775807
  a : ∀ x ∈ m.2.2.2.2.1, x.1.2.2.1 ≤ 9223372036854775807 ∧ x.2.1 ≤ 9223372036854775807
  r : ∀ x ∈ m.2.2.2.2.2, x.1 ≤ 9223372036854775807

theorem rowB_ok {most : Int} {l : List Int} (hl : l.length = 8) : rowB most l = true ↔ okRow most l := by
  simp only [rowB, okRow, wiB, List.all_eq_true, Bool.and_eq_true, decide_eq_true_eq, hl, true_and]
theorem opB_ok {o : Pop} (hb : o.2.2.1 ≤ 9223372036854775807) : opB o = true ↔ okOp o := by
  simp only [opB, okOp, oneB, wiB, Bool.and_eq_true, decide_eq_true_eq]
  constructor
  · rintro ⟨⟨⟨h1, h2⟩, h3⟩, h4⟩; exact ⟨h1, h2, ⟨h3, hb⟩, h4⟩
  · rintro ⟨h1, h2, h3, h4⟩; exact ⟨⟨⟨h1, h2⟩, h3.1⟩, h4⟩
theorem actB_ok {a : Pac} (hs : shA a) (h1 : a.1.2.2.1 ≤ 9223372036854775807) (h2 : a.2.1 ≤ 9223372036854775807) : actB a = true ↔ okAct a := by
  simp only [actB, okAct, Bool.and_eq_true, decide_eq_true_eq, opB_ok h1, rowB_ok (l := a.2.2) hs]
  constructor
  · rintro ⟨⟨g1, g2⟩, g3⟩; exact ⟨g1, ⟨by omega, h2⟩, g3⟩
  · rintro ⟨g1, g2, g3⟩; exact ⟨⟨g1, by omega⟩, g3⟩
theorem rndB_ok {r : Prn} (hs : shR r) (h1 : r.1 ≤ 9223372036854775807) : rndB r = true ↔ okRnd r := by
  unfold rndB okRnd
  by_cases h0 : r.1 = 0
  · rw [if_pos h0, if_pos h0]
    obtain ⟨n, x⟩ := r
    simp only at h0
    subst h0
    simp [zeroR]
  · rw [if_neg h0, if_neg h0]
    simp only [Bool.and_eq_true, decide_eq_true_eq, rowB_ok hs.1, rowB_ok hs.2, wiB]
    constructor
    · rintro ⟨⟨⟨g1, g2⟩, g3⟩, g4⟩; exact ⟨⟨by omega, h1⟩, g2, g3, g4⟩
    · rintro ⟨⟨g0, _⟩, g2, g3, g4⟩; exact ⟨⟨⟨by omega, g2⟩, g3⟩, g4⟩
theorem okZero : okRow mx63 zero8 := ⟨rfl, fun x hx => by rw [List.eq_of_mem_replicate hx]; decide⟩
theorem okZeros : okRnds zeroRs := ⟨rfl, fun x hx => by rw [List.eq_of_mem_replicate hx]; simp [okRnd, zeroR, mx63]⟩
/-- Right says just what has a form. -/
theorem right_ok {m : Pms} (hm : fitM m) (hb : bndM m) : rightB m = true ↔ okMsg m := by
  have hA : m.2.2.2.2.1.all actB = true ↔ ∀ a ∈ m.2.2.2.2.1, okAct a := by
    rw [List.all_eq_true]
    exact ⟨fun h a ha => (actB_ok (hm.sh.2.1 a ha) (hb.a a ha).1 (hb.a a ha).2).1 (h a ha), fun h a ha => (actB_ok (hm.sh.2.1 a ha) (hb.a a ha).1 (hb.a a ha).2).2 (h a ha)⟩
  have hR : m.2.2.2.2.2.all rndB = true ↔ okRnds m.2.2.2.2.2 := by
    rw [List.all_eq_true]
    exact ⟨fun h => ⟨hm.sh.2.2.1, fun r hr => (rndB_ok (hm.sh.2.2.2 r hr) (hb.r r hr)).1 (h r hr)⟩, fun h r hr => (rndB_ok (hm.sh.2.2.2 r hr) (hb.r r hr)).2 (h.2 r hr)⟩
  have hC := rowB_ok (most := mx63) hm.sh.1
  have hl := hm.len
  have he := hb.e
  obtain ⟨k, f_, e_, c, A, R⟩ := m
  simp only at hA hR hC hl he
  simp only [rightB, okMsg, oneB, wiB, usesB, okBody, Bool.and_eq_true, decide_eq_true_eq, hA, hR, hC, useA, useC, useR, beq_iff_eq]
  constructor
  · rintro ⟨⟨⟨⟨⟨⟨h1, h2⟩, h3⟩, ⟨h4, h5⟩, h6⟩, h7⟩, h8⟩, h9⟩
    refine ⟨h1, h2, ⟨h3, he⟩, ?_, ?_, ?_⟩
    · split at h5
      · rw [if_pos (by assumption)]; exact h8
      · rw [if_neg (by assumption)]; exact h5
    · split at h4
      · rw [if_pos (by assumption)]; exact ⟨by omega, h7⟩
      · rw [if_neg (by assumption)]; exact List.length_eq_zero_iff.1 h4
    · split at h6
      · rw [if_pos (by assumption)]; exact h9
      · rw [if_neg (by assumption)]; exact h6
  · rintro ⟨h1, h2, h3, h4, h5, h6⟩
    refine ⟨⟨⟨⟨⟨⟨h1, h2⟩, h3.1⟩, ⟨?_, ?_⟩, ?_⟩, ?_⟩, ?_⟩, ?_⟩
    · split at h5
      · rw [if_pos (by assumption)]
      · rw [if_neg (by assumption), h5]; rfl
    · split at h4
      · rw [if_pos (by assumption)]
      · rw [if_neg (by assumption)]; exact h4
    · split at h6
      · rw [if_pos (by assumption)]
      · rw [if_neg (by assumption)]; exact h6
    · split at h5
      · exact h5.2
      · rw [h5]; simp
    · split at h4
      · exact h4
      · rw [h4]; exact okZero
    · split at h6
      · exact h6
      · rw [h6]; exact okZeros

theorem fN_len {x : Int} (h : x ≤ 9223372036854775807) : (fN x).length ≤ 9 := form_len9 _ (by omega)
theorem flat_len9 : ∀ (l : List Int), (∀ x ∈ l, x ≤ 9223372036854775807) → ((l.map fN).flatten).length ≤ 9 * l.length
  | [], _ => by simp
  | x :: r, h => by
    have h1 := fN_len (h x (by simp))
    have h2 := flat_len9 r (fun y hy => h y (by simp [hy]))
    simp only [List.map_cons, List.flatten_cons, List.length_append, List.length_cons]
    omega
theorem fRow_len {most : Int} (hm : most ≤ 9223372036854775807) {l : List Int} (h : okRow most l) : (fRow l).length ≤ 81 := by
  have h1 := lenG_le nzI l
  rw [h.1] at h1
  have h2 := form_len9 (lenG nzI l) (by omega)
  have h3 := flat_len9 (l.take (lenG nzI l)) (fun x hx => by have := (h.2 x (List.mem_of_mem_take hx)).2; omega)
  rw [List.length_take] at h3
  unfold fRow fRowG
  rw [List.length_append]
  omega
theorem fOp_len {o : Pop} (h : okOp o) : (fOp o).length ≤ 28 := by
  obtain ⟨h1, h2, h3, h4⟩ := h
  unfold mx63 at h3
  have g1 := fN_len (x := o.2.1) (by omega)
  have g2 := fN_len (x := o.2.2.1) (by omega)
  have g3 : (if o.1 = 1 then fN o.2.2.2 else []).length ≤ 9 := by
    split
    · rename_i hk
      rw [if_pos hk] at h4
      exact fN_len (by omega)
    · simp
  unfold fOp
  simp only [List.length_cons, List.length_append]
  omega
theorem fAct_cap {a : Pac} (h : okAct a) : (fAct a).length ≤ 118 := by
  obtain ⟨h1, h2, h3⟩ := h
  have g1 := fOp_len h1
  have g2 := fN_len (x := a.2.1) (by unfold mx63 at h2; omega)
  have g3 := fRow_len (Int.le_refl _) h3
  unfold fAct
  simp only [List.length_append]
  omega
theorem flatG_len {α : Type} {f : α → List UInt8} {n : Nat} : ∀ (l : List α), (∀ x ∈ l, (f x).length ≤ n) → ((l.map f).flatten).length ≤ n * l.length
  | [], _ => by simp
  | x :: r, h => by
    have h1 := h x (by simp)
    have h2 := flatG_len r (fun y hy => h y (by simp [hy]))
    simp only [List.map_cons, List.flatten_cons, List.length_append, List.length_cons, Nat.mul_succ]
    omega
theorem fRnd_len {r : Prn} (h : okRnd r) : (fRnd r).length ≤ 180 := by
  obtain ⟨h1, h2⟩ := h
  have g1 := fN_len (x := r.1) (by unfold mx63 at h1; omega)
  unfold fRnd
  by_cases h0 : r.1 = 0
  · rw [if_pos h0]; simp only [List.length_append, List.length_nil]; omega
  · rw [if_neg h0] at h2 ⊢
    obtain ⟨a, b, c⟩ := h2
    have g2 := fRow_len (Int.le_refl _) a
    have g3 := fRow_len (by decide) b
    have g4 := fN_len (x := r.2.2.2) (by omega)
    simp only [List.length_append]
    omega
theorem fMsg_len {m : Pms} (h : okMsg m) (hn : m.2.2.2.2.1.length ≤ 1000000) : (fMsg m).length ≤ 200000000 := by
  obtain ⟨h1, h2, h3, h4, h5, h6⟩ := h
  have g1 := fN_len (x := m.2.1) (by omega)
  have g2 := fN_len (x := m.2.2.1) (by unfold mx63 at h3; omega)
  have g3 : (if m.1 = 2 then fRow m.2.2.2.1 else []).length ≤ 81 := by
    split
    · rename_i hk; rw [if_pos hk] at h4; exact fRow_len (Int.le_refl _) h4
    · simp
  have g4 : (if m.1 = 1 ∨ m.1 = 3 then fActs m.2.2.2.2.1 else []).length ≤ 118000009 := by
    split
    · rename_i hk
      rw [if_pos hk] at h5
      have e1 := flatG_len (f := fAct) (n := 118) m.2.2.2.2.1 (fun a ha => fAct_cap (h5.2 a ha))
      have e2 := form_len9 m.2.2.2.2.1.length (by omega)
      unfold fActs
      rw [List.length_append]
      omega
    · simp
  have g5 : (if m.1 = 3 ∨ m.1 = 4 then fRnds m.2.2.2.2.2 else []).length ≤ 1449 := by
    split
    · rename_i hk
      rw [if_pos hk] at h6
      have e0 := lenG_le nzR m.2.2.2.2.2
      rw [h6.1] at e0
      have e1 := flatG_len (f := fRnd) (n := 180) (m.2.2.2.2.2.take (lenG nzR m.2.2.2.2.2)) (fun r hr => fRnd_len (h6.2 r (List.mem_of_mem_take hr)))
      rw [List.length_take] at e1
      have e2 := form_len9 (lenG nzR m.2.2.2.2.2) (by omega)
      unfold fRnds fRowG
      rw [List.length_append]
      omega
    · simp
  unfold fMsg fBody
  simp only [List.length_append, List.length_cons]
  omega

theorem message_wr {B b : Nat} {bs : List UInt8} {w : World} (h : ∃ v, WrAt B b bs v w) (m : Pms) (s : Value) (hs : shM m) (ho : okMsg m) (hS : SlA w s m.2.2.2.2.1) (hSB : m.2.2.2.2.1 = [] ∨ ∀ g, s.ownBlock = some g → g < B) (hlen : bs.length + (fMsg m).length ≤ capW) (hB : B ≤ w.heap.size) (hn60 : m.2.2.2.2.1.length ≤ 1000000) :
    Calls Tryz.prog 24 #[.agg #[.pointer (some ⟨b, 0, none⟩)], .agg (mv m s)] w fun e w' => e = .returned (.tuple #[]) ∧ Wrote B b (bs ++ fMsg m) w w' := by
  obtain ⟨k, f_, e_, c, A, R⟩ := m
  obtain ⟨h1, h2, h3, h4, h5, h6⟩ := ho
  simp only at h1 h2 h3 h4 h5 h6 hS hSB hn60
  have hk4 : k = 1 ∨ k = 2 ∨ k = 3 ∨ k = 4 := by omega
  rcases hk4 with rfl | rfl | rfl | rfl
  · simp only [true_or, if_true] at h5
    have e1 : fMsg (1, f_, e_, c, A, R) = UInt8.ofNat 1 :: (fN f_ ++ (fN e_ ++ fActs A)) := by simp [fMsg, fBody]
    rw [e1] at hlen ⊢
    exact message1_wr h f_ e_ c A R s hs h2 h3 h5 hS hSB (by simp only [List.length_cons, List.length_append] at hlen; omega) hB hn60
  · simp only [if_true] at h4
    have e1 : fMsg (2, f_, e_, c, A, R) = UInt8.ofNat 2 :: (fN f_ ++ (fN e_ ++ fRow c)) := by simp [fMsg, fBody]
    rw [e1] at hlen ⊢
    exact message2_wr h f_ e_ c A R s hs h2 h3 h4 hS hSB (by simp only [List.length_cons, List.length_append] at hlen; omega) hB hn60
  · simp only [or_true, true_or, if_true] at h5 h6
    have e1 : fMsg (3, f_, e_, c, A, R) = UInt8.ofNat 3 :: (fN f_ ++ (fN e_ ++ (fActs A ++ fRnds R))) := by simp [fMsg, fBody]
    rw [e1] at hlen ⊢
    exact message3_wr h f_ e_ c A R s hs h2 h3 h5 h6 hS hSB (by simp only [List.length_cons, List.length_append] at hlen ⊢; omega) hB hn60
  · simp only [or_true, if_true] at h6
    have e1 : fMsg (4, f_, e_, c, A, R) = UInt8.ofNat 4 :: (fN f_ ++ (fN e_ ++ fRnds R)) := by simp [fMsg, fBody]
    rw [e1] at hlen ⊢
    exact message4_wr h f_ e_ c A R s hs h2 h3 h6 hS hSB (by simp only [List.length_cons, List.length_append] at hlen; omega) hB hn60
end Go.Proofs.YteffpnjgchihpaaGreatDoor
namespace Go.Proofs.YteffpnjgchihpaaGreatDoor
open Go.RowKit
set_option maxRecDepth 100000

theorem new_f (la ca : ByteArray) (at_ : Int) (hat : -1 ≤ at_) (t : TypeId) (v : Value) (w : World) :
    Calls Tryz.prog 22 #[.string la, .string ca, .int .i64 at_, .iface t v] w fun e w' => e = .returned (.iface 85 (.pointer (some ⟨w.heap.size, 0, none⟩))) ∧ w' = w.alloc (.cells #[.string la, .string ca, .int .i64 at_, .iface t v] 87) := by
  have hm : max at_ (-1) = at_ := by omega
  go_enter Tryz.func22, Tryz.ntmps22
  go_wp2
  go_ret
  exact ⟨rfl, rfl⟩

/-- The names packet and Bytes. -/
def nmPacket : ByteArray := ⟨#[112, 97, 99, 107, 101, 116]⟩
def nmBytes : ByteArray := ⟨#[66, 121, 116, 101, 115]⟩

theorem SlA.own {w : World} {v : Value} {l : List Pac} (h : SlA w v l) : l = [] ∨ ∀ g, v.ownBlock = some g → g < w.heap.size := by
  rcases h with ⟨h1, _⟩ | ⟨g, o_, c, rfl, h2⟩
  · exact .inl h1
  · refine .inr fun k hk => ?_
    simp only [Value.ownBlock, Option.some.injEq] at hk
    rw [← hk]; exact h2.1

set_option maxHeartbeats 2000000 in
theorem bytesP_no {ad : Nat → Addr} (m : Pms) (s : Value) (w : World) (L : Lw ad w) (hm : fitM m) (hA : SlA w s m.2.2.2.2.1) (hr : rightB m = false) :
    Calls Tryz.prog 7 #[.agg (mv m s)] w fun e w' => ∃ f, w.heap.size ≤ f ∧ e = .returned (.tuple #[.slice none 0 0, refv f]) ∧ w'.heap[f]? = some (.cells #[.string nmPacket, .string nmBytes, .int .i64 (-1), rsn ad 5] 87 (0, 0)) ∧ Below w.heap.size w w' := by
  have hB := below_one w (.cells (mv m s) 31)
  have h1 := (RowAt.new w (mv m s) 31).in
  have hA1 := hA.later hB
  have HR := hid_of' (right_is hr s _ hm hA1)
  have L1 := L.kept (S := []) (.of hB) (by simp)
  clear hA L
  go_enter Tryz.func7, Tryz.ntmps7
  go_upto_region 2 with (first | (refine ld_ms hm.sh rfl _ rfl rfl h1 ?_) | (go_at_call 8; refine HR.out.mono ?_; rintro e w1 ⟨rfl, hb1⟩))
  have h5 : w1.cell? ⟨0, 0, none⟩ = some (rsn ad 5) := (L1.kept (S := []) (.of hb1) (by simp)).var 5 (by decide)
  replace hB := bgo hB hb1
  clear h1 hb1 HR L1
  go_wp2_with (go_at_call 22; refine (new_f _ _ (-1) (by decide) _ _ _).mono ?_; rintro e w2 ⟨rfl, rfl⟩)
  go_ret2
  exact ⟨w1.heap.size, hB.size, rfl, heap_alloc_last _ _ _, bgo hB (below_one _ _)⟩

/-- Bytes that were made: where they lie. -/
def BytesAt (bs : List UInt8) (w w' : World) (e : Ending) (tup : Value → Value) : Prop := ∃ g, w.heap.size ≤ g ∧ e = .returned (tup (.slice (some ⟨g, 0, none⟩) bs.length bs.length)) ∧ w'.heap[g]? = some (.cells (Lib.byteCells bs).toArray 5 (0, 0)) ∧ Below w.heap.size w w'

set_option maxHeartbeats 2000000 in
theorem bytesP_ok (m : Pms) (s : Value) (w : World) (hm : fitM m) (hb : bndM m) (hA : SlA w s m.2.2.2.2.1) (ho : okMsg m) :
    Calls Tryz.prog 7 #[.agg (mv m s)] w fun e w' => BytesAt (fMsg m) w w' e (fun v => .tuple #[v, .nilIface]) := by
  have hB := below_one w (.cells (mv m s) 31)
  have h1 := RowAt.new w (mv m s) 31
  have h1i := h1.in
  have hA1 := hA.later hB
  have hSB := hA.own
  have HR := hid_of' (right_is ((right_ok hm hb).2 ho) s _ hm hA1)
  have hcap := fMsg_len ho hm.len
  have HC := hid_of' hcap
  clear hA hcap
  go_enter Tryz.func7, Tryz.ntmps7
  go_upto_region 3 with (first | (refine ld_ms hm.sh rfl _ rfl rfl h1i ?_) | (go_at_call 8; refine HR.out.mono ?_; rintro e w1 ⟨rfl, hb1⟩))
  replace hB := bgo hB hb1
  replace h1 := h1.later hb1
  replace hA1 := hA1.later hb1
  clear hb1 HR h1i
  have hW0 := wr_new w1 w.heap.size hB.size
  have hs1 : (w1.alloc (.cells #[.slice none 0 0] 89)).heap.size = w1.heap.size + 1 := by simp
  have W0 := Wrote.later (Wrote.start ⟨_, hW0⟩ (by rw [hs1]; have := hB.size; omega)) (below_one (w1.alloc (.cells #[.slice none 0 0] 89)) (.cells #[.pointer (some ⟨w1.heap.size, 0, none⟩)] 66))
  have h2 := RowAt.new (w1.alloc (.cells #[.slice none 0 0] 89)) #[.pointer (some ⟨w1.heap.size, 0, none⟩)] 66
  rw [hs1] at h2
  have hB2 := bgo (bgo hB (below_one w1 (.cells #[.slice none 0 0] 89))) (below_one _ (.cells #[.pointer (some ⟨w1.heap.size, 0, none⟩)] 66))
  have h3 := ((h1.alloc (.cells #[.slice none 0 0] 89)).alloc (.cells #[.pointer (some ⟨w1.heap.size, 0, none⟩)] 66)).in
  have hA2 := (hA1.later (below_one w1 (.cells #[.slice none 0 0] 89))).later (below_one _ (.cells #[.pointer (some ⟨w1.heap.size, 0, none⟩)] 66))
  clear hW0 h1 hA1
  go_upto_region 5 with (first | (go_at_call 23; refine (new_any _).mono ?_; rintro e w2 ⟨rfl, rfl⟩) | (refine ld_wt rfl _ rfl rfl h2 ?_) | (refine ld_ms hm.sh rfl _ rfl rfl h3 ?_) | (go_at_call 24; refine (message_wr W0.wr m s hm.sh ho hA2 hSB (by have := HC.out; unfold capW; simp only [List.length_nil]; omega) W0.size hm.len).mono ?_; rintro e w3 ⟨rfl, W1⟩))
  replace h2 := h2.fr W1.fr
  have c1 := ptr_row h2
  obtain ⟨v, hv⟩ := W1.wr
  rw [List.nil_append] at hv
  have hBf := hB2.trans W1.bel
  have HB := hid_of' hBf
  clear W0 W1 h2 h3 hA2 hB2 hBf
  go_wp2_with (go_at_call 25; refine (bytes_any hv (by have := HC.out; omega)).mono ?_; rintro e w4 ⟨rfl, hg, hb4⟩)
  go_ret2
  exact ⟨w3.heap.size, HB.out.size, rfl, hg, bgo HB.out hb4⟩
end Go.Proofs.YteffpnjgchihpaaGreatDoor
namespace Go.Proofs.YteffpnjgchihpaaGreatDoor
open Go.RowKit
set_option maxRecDepth 100000

section
variable {P : Program} {ops : Array Oper} {Q : Exit → Act → World → Prop}

/-- What has been yielded, with one more. -/
def upd (vals : Nat → Value) (i : Nat) (v : Value) (j : Nat) : Value := if j = i then v else vals j

/-- The region: 'vals' what each operation yields, 'J' what the world is when so much has come up. -/
theorem wp_region_invx {id : Nat} {a : Act} {w : World} (hm : P.follows .mixedOrders = true) (hg : ∀ (i : Nat) (o : Oper), ops[i]? = some o → o.guard = none) (J : Array Bool → (Nat → Value) → World → Prop) (hJ : J (Array.replicate ops.size false) (fun _ => undef) w.drew)
    (step : ∀ (i : Nat) (o : Oper), ops[i]? = some o → ∀ (listed : Array Bool) (vals : Nat → Value) (b : Act) (x : World), J listed vals x → listed.size = ops.size → listed.getD i true = false → (∀ e ∈ o.after, Region.binds .any e = true → listed.getD e.on false = true) →
      b.tmps.size = a.tmps.size → b.defers = a.defers → (∀ (j : Nat) (oj : Oper) (d : Tmp), ops[j]? = some oj → oj.dst = some d → listed.getD j false = true → b.tmps[d]? = some (vals j)) → (∀ (d : Tmp), (∀ (j : Nat) (oj : Oper), ops[j]? = some oj → oj.dst ≠ some d) → b.tmps[d]? = a.tmps[d]?) →
      o.wp P b x (fun b' x' => ∃ v, b' = b.put o.dst v ∧ J (listed.setIfInBounds i true) (upd vals i v) x') Q)
    (inj : ∀ (i j : Nat) (oi oj : Oper) (d : Tmp), ops[i]? = some oi → ops[j]? = some oj → oi.dst = some d → oj.dst = some d → i = j) (bd : ∀ (i : Nat) (o : Oper) (d : Tmp), ops[i]? = some o → o.dst = some d → d < a.tmps.size)
    (acyc : ∀ listed : Array Bool, listed.size = ops.size → Region.ready .any ops listed = [] → ∀ i, i < ops.size → listed.getD i false = true)
    (done : ∀ (listed : Array Bool) (vals : Nat → Value) (b : Act) (x : World), (∀ i, i < ops.size → listed.getD i false = true) → J listed vals x → b.tmps.size = a.tmps.size → b.defers = a.defers → (∀ (j : Nat) (oj : Oper) (d : Tmp), ops[j]? = some oj → oj.dst = some d → b.tmps[d]? = some (vals j)) → (∀ (d : Tmp), (∀ (j : Nat) (oj : Oper), ops[j]? = some oj → oj.dst ≠ some d) → b.tmps[d]? = a.tmps[d]?) → Q .normal b x) :
    (Code.region id ops true).wp P Q a w := by
  refine wp_region_any hm (wpAny_inv (fun listed b x => ∃ vals : Nat → Value, J listed vals x ∧ listed.size = ops.size ∧ b.tmps.size = a.tmps.size ∧ b.defers = a.defers ∧ (∀ (j : Nat) (oj : Oper) (d : Tmp), ops[j]? = some oj → oj.dst = some d → listed.getD j false = true → b.tmps[d]? = some (vals j)) ∧ (∀ (d : Tmp), (∀ (j : Nat) (oj : Oper), ops[j]? = some oj → oj.dst ≠ some d) → b.tmps[d]? = a.tmps[d]?)) ?_ ?_ _ _ _ _ (by rw [left_start]; exact Nat.le_refl _) ?_)
  · rintro listed b x i ⟨vals, hj, hs, hz, hd, hv, hr⟩ hi
    obtain ⟨hun, o, ho, hall⟩ := mem_ready.1 hi
    have h := step i o ho listed vals b x hj hs hun hall hz hd hv hr
    unfold wpOp
    simp only [ho]
    have hw : Region.wanted o (yielded ops b.tmps) = true := by simp [Region.wanted, hg i o ho]
    rw [if_pos hw]
    refine .inl (Oper.wp_mono ?_ h)
    rintro b' x' ⟨v, rfl, hj'⟩
    refine ⟨upd vals i v, hj', by simpa using hs, ?_, ?_, ?_, ?_⟩
    · cases hdst : o.dst with
      | none => exact hz
      | some d => simpa [Act.put] using hz
    · cases hdst : o.dst with
      | none => exact hd
      | some d => simpa [Act.put] using hd
    · intro j oj d hj hjd hl
      by_cases hij : i = j
      · subst hij
        obtain rfl := Option.some.inj (ho.symm.trans hj)
        rw [hjd]
        have hlt := bd i o d ho hjd
        simp [Act.put, hz, hlt, upd]
      · have hl' : listed.getD j false = true := by rw [getD_set_ne false hij] at hl; exact hl
        have hold := hv j oj d hj hjd hl'
        have hup : upd vals i v j = vals j := if_neg (fun e => hij e.symm)
        rw [hup]
        cases hdst : o.dst with
        | none => simpa [Act.put] using hold
        | some d' =>
          have hne : d' ≠ d := fun e => hij (inj i j o oj d ho hj (by rw [hdst, e]) hjd)
          simp [Act.put, Array.getElem?_setIfInBounds_ne hne, hold]
    · intro d hnd
      have hold := hr d hnd
      cases hdst : o.dst with
      | none => simpa [Act.put] using hold
      | some d' =>
        have hne : d' ≠ d := fun e => hnd i o ho (by rw [hdst, e])
        simp [Act.put, Array.getElem?_setIfInBounds_ne hne, hold]
  · rintro listed b x ⟨vals, hj, hs, hz, hd, hv, hr⟩ h0
    have hall := acyc listed hs h0
    exact done listed vals b x hall hj hz hd (fun j oj d h1 h2 => hv j oj d h1 h2 (hall j (Array.getElem?_eq_some_iff.1 h1).1)) hr
  · refine ⟨fun _ => undef, hJ, by simp, rfl, rfl, fun j oj d h1 h2 h3 => ?_, fun d _ => rfl⟩
    simp only [Array.getD_eq_getD_getElem?, Array.getElem?_replicate] at h3
    split at h3 <;> simp at h3

theorem wp_region_invx' {id : Nat} {a : Act} {w : World} (hm : P.follows .mixedOrders = true) (hok : regOkB ops a.tmps.size = true) (J : Array Bool → (Nat → Value) → World → Prop) (hJ : J (Array.replicate ops.size false) (fun _ => undef) w.drew)
    (step : ∀ (i : Nat) (o : Oper), ops[i]? = some o → ∀ (listed : Array Bool) (vals : Nat → Value) (b : Act) (x : World), J listed vals x → listed.size = ops.size → listed.getD i true = false → (∀ e ∈ o.after, Region.binds .any e = true → listed.getD e.on false = true) → b.defers = a.defers →
      (∀ (j : Nat) (oj : Oper) (d : Tmp), ops[j]? = some oj → oj.dst = some d → listed.getD j false = true → b.tmps[d]? = some (vals j)) → (∀ (d : Tmp), writesB ops d = false → b.tmps[d]? = a.tmps[d]?) →
      o.wp P b x (fun b' x' => ∃ v, b' = b.put o.dst v ∧ J (listed.setIfInBounds i true) (upd vals i v) x') Q)
    (done : ∀ (listed : Array Bool) (vals : Nat → Value) (b : Act) (x : World), (∀ i, i < ops.size → listed.getD i false = true) → J listed vals x → b.tmps.size = a.tmps.size → b.defers = a.defers → (∀ (j : Nat) (oj : Oper) (d : Tmp), ops[j]? = some oj → oj.dst = some d → b.tmps[d]? = some (vals j)) → (∀ (d : Tmp), writesB ops d = false → b.tmps[d]? = a.tmps[d]?) → Q .normal b x) :
    (Code.region id ops true).wp P Q a w := by
  have wr : ∀ (b : Act), (∀ (d : Tmp), (∀ (j : Nat) (oj : Oper), ops[j]? = some oj → oj.dst ≠ some d) → b.tmps[d]? = a.tmps[d]?) → ∀ (d : Tmp), writesB ops d = false → b.tmps[d]? = a.tmps[d]? := fun b h d hd => h d fun j oj hj he => by
    have : writesB ops d = true := Array.any_eq_true'.2 ⟨oj, Array.mem_of_getElem? hj, by simp [he]⟩
    rw [this] at hd
    cases hd
  refine wp_region_invx hm (fun i o ho => (regOk_at hok i o ho).1) J hJ ?_ ?_ (fun i o d ho hd => ((regOk_at hok i o ho).2.2 d hd).1) ?_ ?_
  · intro i o ho listed vals b x h1 h2 h3 h4 _ h6 h7 h8
    exact step i o ho listed vals b x h1 h2 h3 h4 h6 h7 (wr b h8)
  · intro i j oi oj d hi hj hdi hdj
    rcases Nat.lt_trichotomy i j with h | h | h
    · exact absurd hdi (((regOk_at hok j oj hj).2.2 d hdj).2 i oi h hi)
    · exact h
    · exact absurd hdj (((regOk_at hok i oi hi).2.2 d hdi).2 j oj h hj)
  · intro listed hs h0 i
    induction i using Nat.strongRecOn with
    | _ i ih =>
      intro hi
      have ho : ops[i]? = some ops[i] := Array.getElem?_eq_getElem hi
      cases hl : listed.getD i false with
      | true => rfl
      | false =>
        exfalso
        have hmem : i ∈ Region.ready .any ops listed := mem_ready.2 ⟨by
          have hil : i < listed.size := by omega
          simp only [Array.getD_eq_getD_getElem?, Array.getElem?_eq_getElem hil, Option.getD_some] at hl ⊢
          exact hl, ops[i], ho, fun e he _ => by
          have hlt := (regOk_at hok i _ ho).2.1 e he
          exact ih e.on hlt (by omega)⟩
        rw [h0] at hmem
        cases hmem
  · intro listed vals b x h1 h2 h3 h4 h5 h6
    exact done listed vals b x h1 h2 h3 h4 h5 (wr b h6)

/-- The frame behind the region: each value in its slot. -/
def putAll (vals : Nat → Value) : List Oper → Nat → Array Value → Array Value
  | [], _, t => t
  | o :: l, k, t => putAll vals l (k + 1) (match o.dst with | some d => t.setIfInBounds d (vals k) | none => t)
theorem putAll_is {vals : Nat → Value} {B : Array Value} : ∀ (l : List Oper) (k : Nat) (t : Array Value), (∀ (i : Nat) (o : Oper) (d : Tmp), l[i]? = some o → o.dst = some d → B[d]? = some (vals (k + i))) → t.size = B.size → (∀ d : Tmp, t[d]? = B[d]? ∨ ∃ (i : Nat) (o : Oper), l[i]? = some o ∧ o.dst = some d) → putAll vals l k t = B
  | [], _, t, _, _, ht => Array.ext_getElem? fun d => by
    rcases ht d with h | ⟨i, o, h, _⟩
    · exact h
    · simp at h
  | o :: l, k, t, hl, hs, ht => by
    refine putAll_is l (k + 1) _ (fun i o' d h1 h2 => ?_) ?_ fun d => ?_
    · have := hl (i + 1) o' d (by simpa using h1) h2
      rwa [Nat.add_assoc, Nat.add_comm 1 i]
    · cases o.dst <;> simp [hs]
    · cases hd : o.dst with
      | none =>
        rcases ht d with h | ⟨i, o', h1, h2⟩
        · exact .inl h
        · cases i with
          | zero => simp at h1; subst h1; rw [hd] at h2; cases h2
          | succ i => exact .inr ⟨i, o', by simpa using h1, h2⟩
      | some d' =>
        by_cases e : d' = d
        · subst e
          have h0 := hl 0 o d' rfl hd
          have hlt : d' < t.size := by rw [hs]; exact (Array.getElem?_eq_some_iff.1 h0).1
          left; rw [h0]; simp [hlt]
        · simp only [Array.getElem?_setIfInBounds_ne e]
          rcases ht d with h | ⟨i, o', h1, h2⟩
          · exact .inl h
          · cases i with
            | zero => simp at h1; subst h1; rw [hd] at h2; cases h2; exact absurd rfl e
            | succ i => exact .inr ⟨i, o', by simpa using h1, h2⟩
theorem frame_is {l : List Oper} {a b : Act} {vals : Nat → Value} (hsz : b.tmps.size = a.tmps.size) (hdf : b.defers = a.defers) (hw : ∀ (j : Nat) (oj : Oper) (d : Tmp), l.toArray[j]? = some oj → oj.dst = some d → b.tmps[d]? = some (vals j)) (hu : ∀ (d : Tmp), writesB l.toArray d = false → b.tmps[d]? = a.tmps[d]?) :
    b = ⟨putAll vals l 0 a.tmps, a.defers⟩ := by
  have : putAll vals l 0 a.tmps = b.tmps := putAll_is l 0 _ (fun i o d h1 h2 => by rw [Nat.zero_add]; exact hw i o d (by simpa using h1) h2) hsz.symm fun d => by
    cases h : writesB l.toArray d with
    | false => exact .inl (hu d h).symm
    | true =>
      right
      obtain ⟨o, ho, hd⟩ := Array.any_eq_true'.1 h
      obtain ⟨i, hi⟩ := List.mem_iff_getElem?.1 (List.mem_toArray.1 ho)
      exact ⟨i, o, hi, by simpa using hd⟩
  rw [this, ← hdf]
end
end Go.Proofs.YteffpnjgchihpaaGreatDoor
