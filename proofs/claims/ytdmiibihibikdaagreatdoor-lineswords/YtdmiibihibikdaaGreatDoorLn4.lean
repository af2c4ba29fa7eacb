/-
  Package lines: Start, Length, Text; Where of no model; barrowlaw06.wakes.
-/
import Derived.Test.YtdmiibihibikdaaGreatDoorLn3
import Derived.Test.YtdmiibihibikdaaGreatDoorTrRef0
namespace Go.Proofs.YtdmiibihibikdaaGreatDoor
open Go.RowKit Go.Extern.Stop Go.Stop Go.Extern
set_option maxRecDepth 100000

def bStart : ByteArray := ⟨#[83, 116, 97, 114, 116]⟩
def bLength : ByteArray := ⟨#[76, 101, 110, 103, 116, 104]⟩
def bText : ByteArray := ⟨#[84, 101, 120, 116]⟩
def bWhere : ByteArray := ⟨#[87, 104, 101, 114, 101]⟩
/-- An error: a Fault of package lines. -/
def fvL (g : Nat) : Value := .iface 107 (.pointer (some ⟨g, 0, none⟩))

set_option maxHeartbeats 400000 in
theorem start_nil {ad : Nat → Addr} (line : Int) {w : World} (L : Laid ad w) :
    Calls Tryz.prog 28 #[.pointer none, .int .i64 line] w fun e w' => ∃ g, e = .returned (.tuple #[.int .i64 0, fvL g]) ∧ FaultAt ad g bLines bStart (-1) 0 w' ∧ Below w.heap.size w w' := by
  have HR := hid_of' (lineRef_nil bStart line L)
  clear L
  go_enter Tryz.func28, Tryz.ntmps28
  go_wp2_with (go_at_call 31; refine HR.out.mono ?_; rintro r w1 ⟨g, rfl, hf, hb1⟩)
  go_ret2
  exact ⟨g, rfl, hf, hb1⟩
set_option maxHeartbeats 400000 in
theorem start_out {ad : Nat → Addr} {mb : Nat} {l : List El} (line : Int) {w : World} (h : MvAt mb l w) (L : Laid ad w) (ho : line < 0 ∨ (nlC (vis l) : Int) < line) :
    Calls Tryz.prog 28 #[pv mb, .int .i64 line] w fun e w' => ∃ g, e = .returned (.tuple #[.int .i64 0, fvL g]) ∧ FaultAt ad g bLines bStart (place line) 1 w' ∧ Below w.heap.size w w' := by
  have HR := hid_of' (lineRef_out bStart line h L ho)
  unfold pv at *
  clear L h ho
  go_enter Tryz.func28, Tryz.ntmps28
  go_wp2_with (go_at_call 31; refine HR.out.mono ?_; rintro r w1 ⟨g, rfl, hf, hb1⟩)
  go_ret2
  exact ⟨g, rfl, hf, hb1⟩
set_option maxHeartbeats 400000 in
theorem start_ok {mb : Nat} {l : List El} (j : Nat) {w : World} (h : MvAt mb l w) (hn : l.length ≤ 1000000) (hj : j ≤ nlC (vis l)) :
    Calls Tryz.prog 28 #[pv mb, .int .i64 (j : Int)] w fun e w' => e = .returned (.tuple #[.int .i64 (stC (vis l) j : Int), .nilIface]) ∧ Below w.heap.size w w' := by
  have HR := hid_of' (lineRef_ok bStart j h hj)
  have HE : Hid (∀ x, Below w.heap.size w x → _) := fun x hx => ends_any (h.later hx) j hn hj
  unfold pv at *
  clear h hj
  go_enter Tryz.func28, Tryz.ntmps28
  go_wp2_with (first | (go_at_call 31; refine HR.out.mono ?_; rintro r w1 ⟨rfl, hb1⟩) | (go_at_call 32; refine (HE.out _ hb1).mono ?_; rintro r w2 ⟨rfl, hb2⟩))
  go_ret2
  exact ⟨rfl, bgo hb1 hb2⟩
set_option maxHeartbeats 400000 in
theorem length_out {ad : Nat → Addr} {mb : Nat} {l : List El} (line : Int) {w : World} (h : MvAt mb l w) (L : Laid ad w) (ho : line < 0 ∨ (nlC (vis l) : Int) < line) :
    Calls Tryz.prog 29 #[pv mb, .int .i64 line] w fun e w' => ∃ g, e = .returned (.tuple #[.int .i64 0, fvL g]) ∧ FaultAt ad g bLines bLength (place line) 1 w' ∧ Below w.heap.size w w' := by
  have HR := hid_of' (lineRef_out bLength line h L ho)
  unfold pv at *
  clear L h ho
  go_enter Tryz.func29, Tryz.ntmps29
  go_wp2_with (go_at_call 31; refine HR.out.mono ?_; rintro r w1 ⟨g, rfl, hf, hb1⟩)
  go_ret2
  exact ⟨g, rfl, hf, hb1⟩
set_option maxHeartbeats 400000 in
theorem length_ok {mb : Nat} {l : List El} (j : Nat) {w : World} (h : MvAt mb l w) (hn : l.length ≤ 1000000) (hj : j ≤ nlC (vis l)) :
    Calls Tryz.prog 29 #[pv mb, .int .i64 (j : Int)] w fun e w' => e = .returned (.tuple #[.int .i64 ((enC (vis l) j - stC (vis l) j : Nat) : Int), .nilIface]) ∧ Below w.heap.size w w' := by
  obtain ⟨a1, a2⟩ := st_en (vis l) j hj
  have h2 := vis_le l
  have hK : wrap64 ((enC (vis l) j : Int) - (stC (vis l) j : Int)) = ((enC (vis l) j - stC (vis l) j : Nat) : Int) := by rw [wrapIs (by omega) (by omega)]; omega
  have HR := hid_of' (lineRef_ok bLength j h hj)
  have HE : Hid (∀ x, Below w.heap.size w x → _) := fun x hx => ends_any (h.later hx) j hn hj
  unfold pv at *
  clear h hj a1 a2 h2
  go_enter Tryz.func29, Tryz.ntmps29
  go_wp2_with (first | (go_at_call 31; refine HR.out.mono ?_; rintro r w1 ⟨rfl, hb1⟩) | (go_at_call 32; refine (HE.out _ hb1).mono ?_; rintro r w2 ⟨rfl, hb2⟩))
  go_ret2
  exact ⟨congrArg (fun x => Ending.returned (Value.tuple #[Value.int .i64 x, .nilIface])) hK, bgo hb1 hb2⟩
set_option maxHeartbeats 400000 in
theorem text_out {ad : Nat → Addr} {mb : Nat} {l : List El} (line : Int) {w : World} (h : MvAt mb l w) (L : Laid ad w) (ho : line < 0 ∨ (nlC (vis l) : Int) < line) :
    Calls Tryz.prog 21 #[pv mb, .int .i64 line] w fun e w' => ∃ g, e = .returned (.tuple #[.string ⟨#[]⟩, fvL g]) ∧ FaultAt ad g bLines bText (place line) 1 w' ∧ Below w.heap.size w w' := by
  have HR := hid_of' (lineRef_out bText line h L ho)
  unfold pv at *
  clear L h ho
  go_enter Tryz.func21, Tryz.ntmps21
  go_wp2_with (go_at_call 31; refine HR.out.mono ?_; rintro r w1 ⟨g, rfl, hf, hb1⟩)
  go_ret2
  exact ⟨g, rfl, hf, hb1⟩
/-- What a line says. -/
def txC (v : List Int) (j : Nat) : List Int := (v.drop (stC v j)).take (enC v j - stC v j)
set_option maxHeartbeats 400000 in
theorem text_ok {ad : Nat → Addr} {mb : Nat} {l : List El} (j : Nat) {w : World} (h : MvAt mb l w) (L : Laid ad w) (hn : l.length ≤ 1000000) (hj : j ≤ nlC (vis l)) (hc : Ch32 l) :
    Calls Tryz.prog 21 #[pv mb, .int .i64 (j : Int)] w fun e w' => e = .returned (.tuple #[.string ⟨(encL (txC (vis l) j)).toArray⟩, .nilIface]) ∧ Below w.heap.size w w' := by
  have HR := hid_of' (lineRef_ok bText j h hj)
  have HE : Hid (∀ x, Below w.heap.size w x → _) := fun x hx => textOf_any (h.later hx) (L.below hx) j hn hj hc
  unfold pv at *
  clear h hj L
  go_enter Tryz.func21, Tryz.ntmps21
  go_wp2_with (first | (go_at_call 31; refine HR.out.mono ?_; rintro r w1 ⟨rfl, hb1⟩) | (go_at_call 45; refine (HE.out _ hb1).mono ?_; rintro r w2 ⟨rfl, hb2⟩))
  go_ret2
  exact ⟨rfl, bgo hb1 hb2⟩
set_option maxHeartbeats 400000 in
theorem where_nil {ad : Nat → Addr} (p : Int) {w : World} (L : Laid ad w) :
    Calls Tryz.prog 17 #[.pointer none, .int .i64 p] w fun e w' => ∃ g, e = .returned (.tuple #[.int .i64 0, .int .i64 0, fvL g]) ∧ FaultAt ad g bLines bWhere (-1) 0 w' ∧ Below w.heap.size w w' := by
  have HR := hid_of' (gapRef_nil bWhere p L)
  clear L
  go_enter Tryz.func17, Tryz.ntmps17
  go_wp2_with (go_at_call 38; refine HR.out.mono ?_; rintro r w1 ⟨g, rfl, hf, hb1⟩)
  go_ret3
  exact ⟨g, rfl, hf, hb1⟩

/-- The model of wakes. -/
def wkL : List El := bgE [97, 10, 98] [] (bgN [97, 10, 98])
theorem wk_vis : vis wkL = [97, 10, 98] := by rfl
theorem wk_len : wkL.length ≤ 1000000 := by show (3 : Nat) ≤ 1000000; omega
theorem wk_txt : encL (txC (vis wkL) 1) = [98] := by rfl
set_option maxHeartbeats 2000000 in
theorem wakes6_ok {ad : Nat → Addr} (w : World) (L : Laid ad w) : Calls Tryz.prog 12 #[] w fun r w' => r = .returned (.bool true) ∧ Below w.heap.size w w' := by
  have hu : SlR (w.alloc (.cells #[.int .i32 97, .int .i32 10, .int .i32 98] 21)) (.slice (some ⟨w.heap.size, 0, none⟩) 3 3) [97, 10, 98] := by
    refine .inr ⟨w.heap.size, 0, 3, rfl, by simp, fun i x hx => ?_⟩
    have hr := row_new w #[.int .i32 97, .int .i32 10, .int .i32 98] 21
    rw [Nat.zero_add, hr.cell]
    match i, hx with
    | 0, hx => cases hx; rfl
    | 1, hx => cases hx; rfl
    | 2, hx => cases hx; rfl
    | n + 3, hx => simp at hx
  have HB := hid_of' (begun_ok (uh := .slice none 0 0) (hs := []) hu (.inl ⟨rfl, none, 0, rfl⟩))
  have hb0 := below_one w (.cells #[.int .i32 97, .int .i32 10, .int .i32 98] 21)
  obtain ⟨_, _, g3⟩ := bgE_good [97, 10, 98] [] (bgN [97, 10, 98]) (by decide)
  have HC : Hid (∀ (mb : Nat) (x : World), MvAt mb wkL x → Calls Tryz.prog 10 #[pv mb] x fun r w' => r = .returned (.int .i64 2) ∧ Below x.heap.size x w') := fun mb x hx => by
    have := count_any hx wk_len
    rw [wk_vis] at this
    exact this
  have HN := hid_of' count_nil
  have HS : Hid (∀ (x : World), Below w.heap.size w x → _) := fun x hx => start_nil 0 (L.below hx)
  have HW : Hid (∀ (x : World), Below w.heap.size w x → _) := fun x hx => where_nil 0 (L.below hx)
  have HT : Hid (∀ (mb : Nat) (x : World), MvAt mb wkL x → Below w.heap.size w x → _) := fun mb x hx hb => text_ok 1 hx (L.below hb) wk_len (by rw [wk_vis]; decide) g3
  rw [wk_txt] at HT
  have hu' := hu
  clear hu hu'
  unfold pv fvL at *
  go_enter Tryz.func12, Tryz.ntmps12
  go_upto_region 2 with (go_at_call 8; refine HB.out.mono ?_; rintro r w1 ⟨mb, vs, rfl, hM, _, hb1⟩)
  have hM1 : MvAt mb wkL w1 := hM
  have hB1 := bgo hb0 hb1
  clear hM HB hb0 hb1
  go_upto_region 4 with (go_at_call 10; first | ((with_reducible refine (HC.out mb _ hM1).mono ?_); rintro r w2 ⟨rfl, hb2⟩) | ((with_reducible refine (HN.out _).mono ?_); rintro r w3 ⟨rfl, hw⟩; obtain rfl := hw.symm))
  have hB2 := bgo hB1 hb2
  have hM2 := hM1.later hb2
  clear hM1 hB1 hb2 HC HN
  go_upto_region 5 with (go_at_call 28; refine (HS.out _ hB2).mono ?_; rintro r w4 ⟨g1, rfl, hf1, hb4⟩)
  have hB4 := bgo hB2 hb4
  have hM4 := hM2.later hb4
  clear hM2 hB2 hb4 HS
  go_upto_region 6 with (go_at_call 17; refine (HW.out _ hB4).mono ?_; rintro r w5 ⟨g2, rfl, hf2, hb5⟩)
  have hB5 := bgo hB4 hb5
  have hM5 := hM4.later hb5
  replace hf1 := RowAt.later hf1 hb5
  clear hM4 hB4 hb5 HW
  go_upto_region 7 with (go_at_call 21; refine (HT.out mb _ hM5 hB5).mono ?_; rintro r w6 ⟨rfl, hb6⟩)
  have hB6 := bgo hB5 hb6
  replace hf1 := RowAt.later hf1 hb6
  replace hf2 := RowAt.later hf2 hb6
  clear hM5 hB5 hb6 HT
  have HY : Hid (∀ (ca : ByteArray) (x : World), Calls Tryz.prog 30 #[.string bLines, .string ca, .int .i64 (-1), .int .i64 1] x fun e w' => ∃ g g', e = .returned (.agg #[.int .i64 1, .slice (some ⟨g', 0, none⟩) 1 1, .slice (some ⟨g, 0, none⟩) 1 1]) ∧ CsIn g' 0 #[.string bLines, .string ca, .int .i64 (-1)] w' ∧ CsIn g 0 #[.int .i64 1] w' ∧ Below x.heap.size x w') := fun ca x => by
    refine (say_any bLines ca (-1) 1 x (by decide)).mono ?_
    rintro e w' ⟨g, g', h1, _, _, h2, h3, h4⟩
    exact ⟨g, g', h1, h2, h3, h4⟩
  have HR : Hid (∀ (ca : ByteArray) (b g g' : Nat) (x : World), Below w.heap.size w x → FaultAt ad b bLines ca (-1) 0 x → CsIn g' 0 #[.string bLines, .string ca, .int .i64 (-1)] x → CsIn g 0 #[.int .i64 1] x → Calls Tryz.prog 15 #[.iface 107 (.pointer (some ⟨b, 0, none⟩)), .agg #[.int .i64 1, .slice (some ⟨g', 0, none⟩) 1 1, .slice (some ⟨g, 0, none⟩) 1 1]] x fun e w' => e = .returned (.bool true) ∧ Below x.heap.size x w') := fun ca b g g' x hb h1 h2 h3 => refused_some (k := 0) (L.below hb) h1 (by decide) h2 h3
  have HY1 := hid_of' (HY.out bStart)
  have HY2 := hid_of' (HY.out bWhere)
  clear L HY
  go_wp2_with (first | (go_at_call 30; first | (refine (HY1.out _).mono ?_; rintro r w7 ⟨x1, x2, rfl, k1, k2, hb7⟩; clear HY1; have hB7 := bgo hB6 hb7; have hf7 : FaultAt ad g1 bLines bStart (-1) 0 _ := RowAt.later hf1 hb7) | (refine (HY2.out _).mono ?_; clear HY2; rintro r w9 ⟨y1, y2, rfl, m1, m2, hb9⟩; have hB9 := bgo hB8 hb9; have hf9 : FaultAt ad g2 bLines bWhere (-1) 0 _ := RowAt.later (RowAt.later (RowAt.later hf2 hb7) hb8) hb9)) | (go_at_call 15; first | ((with_reducible refine (HR.out bStart g1 x1 x2 _ hB7 hf7 k1 k2).mono ?_); rintro r w8 ⟨rfl, hb8⟩; have hB8 := bgo hB7 hb8) | ((with_reducible refine (HR.out bWhere g2 y1 y2 _ hB9 hf9 m1 m2).mono ?_); rintro r w10 ⟨rfl, hb10⟩)))
  go_ret
  exact ⟨rfl, bgo hB9 hb10⟩
end Go.Proofs.YtdmiibihibikdaaGreatDoor
