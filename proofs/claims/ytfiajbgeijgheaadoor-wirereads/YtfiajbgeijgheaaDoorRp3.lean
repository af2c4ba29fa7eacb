
/-
  barrowlaw02.call: one reading of both.
-/
import Derived.Test.YtfiajbgeijgheaaDoorRp2
import Derived.Test.YtfiajbgeijgheaaDoorWk
namespace Go.Proofs.YtfiajbgeijgheaaDoor
open Go.RowKit
set_option maxRecDepth 100000

theorem lwOf {ad : Nat → Addr} {w : World} (L : Laid ad w) : Lw ad w := by
  refine ⟨fun k hk => ?_, ?_⟩
  · rcases hk with rfl | rfl | rfl | rfl
    · exact L.var 0 (by decide)
    · exact L.var 1 (by decide)
    · exact L.var 5 (by decide)
    · exact L.var 6 (by decide)
  · have h0 := lt_of_cell (L.var 0 (by decide))
    have h1 := lt_of_cell (L.var 1 (by decide))
    have h5 := lt_of_cell (L.var 5 (by decide))
    have h6 := lt_of_cell (L.var 6 (by decide))
    simp only [gix] at h0 h1 h5 h6
    omega
theorem map_ok {α : Type} {r : Except Nat α} {f : α → Value × Nat} {v : Value} {k : Nat} (h : r.map f = .ok (v, k)) : ∃ x, v = (f x).1 := by
  cases r with
  | error d => simp [Except.map] at h
  | ok x => simp [Except.map] at h; exact ⟨x, by rw [h]⟩
theorem resS_form {P : Value → Prop} {z : Value} {nm : ByteArray} {pl : Nat} {res : Except Nat (Value × Nat)} {st : StO} (hz : P z) (hr : ∀ v k, res = .ok (v, k) → P v) : P (resS z nm pl res st).1 := by
  match st with
  | some s => exact hz
  | none =>
    match res, hr with
    | .ok (v, k), hr => exact hr v k rfl
    | .error c, _ => exact hz

set_option maxHeartbeats 4000000 in
theorem call_Number {ad : Nat → Addr} {rb g xb : Nat} {v : Value} {bs : List UInt8} {pl : Nat} {st : StO} {er n0 n1 n2 : Value} {W w : World} (L : Laid ad W) (hW : Below W.heap.size W w) (hrb : W.heap.size ≤ rb) (hxb : W.heap.size ≤ xb) (h : PairAt ad rb g xb v bs pl st er n0 n1 n2 w) (k l m : Int) (hk : k % 5 = 0) :
    Calls Tryd.prog 24 #[.pointer (some ⟨rb, 0, none⟩), .pointer (some ⟨xb, 0, none⟩), .agg #[.int .i64 k, .int .i64 l, .int .i64 m]] w fun e w' => e = .returned (.bool true) ∧ Below W.heap.size W w' ∧ ∃ er' m0 m1 m2, PairAt ad rb g xb v bs (resS (.int .i64 0) ⟨#[78, 117, 109, 98, 101, 114]⟩ pl ((numR (bs.drop pl) m).map fun x => (.int .i64 x.1, x.2)) st).2.1 (resS (.int .i64 0) ⟨#[78, 117, 109, 98, 101, 114]⟩ pl ((numR (bs.drop pl) m).map fun x => (.int .i64 x.1, x.2)) st).2.2 er' m0 m1 m2 w' := by
  have hrow := RowAt.new w #[.int .i64 k, .int .i64 l, .int .i64 m] 59
  have hB := below_one w (.cells #[.int .i64 k, .int .i64 l, .int .i64 m] 59)
  have h1 := h.later hB
  have hlr : rb < w.heap.size := lt_of_heap h.rd.lies
  have hlx := h.xs.at_.row.lt
  have hW1 : Below W.heap.size W (w.alloc (.cells #[.int .i64 k, .int .i64 l, .int .i64 m] 59)) := bgo hW hB
  have hF : ∃ u0 : Int, (resS (.int .i64 0) ⟨#[78, 117, 109, 98, 101, 114]⟩ pl ((numR (bs.drop pl) m).map fun x => (.int .i64 x.1, x.2)) st).1 = .int .i64 u0 := resS_form (P := fun u => ∃ n : Int, u = .int .i64 n) ⟨_, rfl⟩ fun v k hv => by obtain ⟨x, hx⟩ := map_ok hv; exact ⟨_, hx⟩
  have HW := wo_Number (lwOf (L.below hW1)) h1.rd h1.er m
  have HX : ∀ w', XsAt xb v bs pl st n0 n1 n2 w' → Calls Tryd.prog 40 #[.pointer (some ⟨xb, 0, none⟩), .int .i64 m] w' (XOut xb v bs tp w' (resS (.int .i64 0) ⟨#[78, 117, 109, 98, 101, 114]⟩ pl ((numR (bs.drop pl) m).map fun x => (.int .i64 x.1, x.2)) st)) := fun w' hx => xo_Number hx m
  generalize (resS (.int .i64 0) ⟨#[78, 117, 109, 98, 101, 114]⟩ pl ((numR (bs.drop pl) m).map fun x => (.int .i64 x.1, x.2)) st) = R at HW HX hF ⊢
  obtain ⟨rv, q, s⟩ := R
  obtain ⟨u0, hu⟩ := hF
  simp only at hu
  subst hu
  have HW := hid_of' HW
  have HX := hid_of' HX
  have H1 := hid_of' (And.intro h1 (And.intro hW1 L))
  have hne : w.heap.size ≠ rb ∧ w.heap.size ≠ xb := ⟨by omega, by omega⟩
  have d0 := hrow.cell 0
  have d1 := hrow.cell 1
  have d2 := hrow.cell 2
  simp only [List.getElem?_toArray, List.getElem?_cons_zero, List.getElem?_cons_succ] at d0 d1 d2
  clear h h1 hB hW hW1
  go_enter Tryd.func24, Tryd.ntmps24
  go_wp2_with (first
    | (go_at_call 8; refine (within5 _ _).mono ?_; rintro e w9 ⟨rfl, h9⟩; obtain rfl := h9.symm)
    | (go_at_call 39; (with_reducible refine HW.out.mono ?_); rintro e w2 ⟨er2, rfl, r2, e2, k2⟩; simp only [tp] at r2 e2 ⊢; have x2 := H1.out.1.wire k2; have row2 := hrow.kept k2 (by simp; exact hne.1); have f1 := row2.cell 1; have f2 := row2.cell 2; simp only [List.getElem?_toArray, List.getElem?_cons_zero, List.getElem?_cons_succ] at f1 f2)
    | (go_at_call 40; (with_reducible refine (HX.out _ x2).mono ?_); rintro e w3 ⟨m0, m1, m2, rfl, x3, k3⟩; simp only [tp] at x3 ⊢; have P3 := H1.out.1.both k2 r2 e2 x3 k3; have hB2 := H1.out.2.1.trans (k2.below (B := W.heap.size) (by simp; exact hrb) H1.out.2.1.size); have hB3 := hB2.trans (k3.below (B := W.heap.size) (by simp; exact hxb) hB2.size))
    | (refine wpL_stNo rfl _ _ rfl rfl rfl x3.no.one (RowAt.new _ zNo _) ?_; have hb4 := below_row (below_one w3 (.cells zNo 33)) (Nat.le_refl _) #[m0, m1, m2]; have row4 : RowAt w3.heap.size #[m0, m1, m2] 33 ((w3.alloc (.cells zNo 33)).setRow w3.heap.size #[m0, m1, m2]) := RowAt.put (RowAt.new w3 zNo _) _; have P4 := P3.later hb4; have hB4 := bgo hB3 hb4; have g0 := row4.cell 0; have g1 := row4.cell 1; have g2 := row4.cell 2; simp only [List.getElem?_toArray, List.getElem?_cons_zero, List.getElem?_cons_succ] at g0 g1 g2; generalize (w3.alloc (.cells zNo 33)).setRow w3.heap.size #[m0, m1, m2] = w4 at *)
    | (refine wpL_ldNo rfl _ rfl rfl (RowAt.in row4) ?_)
    | (go_at_call 15; (with_reducible refine (refused_pair (H1.out.2.2.below hB4) P4.er P4.xs.no).mono ?_); rintro e w5 ⟨rfl, hb5⟩; have P5 := P4.later hb5; have hB5 := bgo hB4 hb5))
  go_ret
  exact ⟨rfl, hB5, _, _, _, _, P5⟩

set_option maxHeartbeats 4000000 in
theorem call_Text {ad : Nat → Addr} {rb g xb : Nat} {v : Value} {bs : List UInt8} {pl : Nat} {st : StO} {er n0 n1 n2 : Value} {W w : World} (L : Laid ad W) (hW : Below W.heap.size W w) (hrb : W.heap.size ≤ rb) (hxb : W.heap.size ≤ xb) (h : PairAt ad rb g xb v bs pl st er n0 n1 n2 w) (k l m : Int) (hk : k % 5 = 1) (hcap : ∀ a m c, v = .slice a m c → bs.length ≤ c) :
    Calls Tryd.prog 24 #[.pointer (some ⟨rb, 0, none⟩), .pointer (some ⟨xb, 0, none⟩), .agg #[.int .i64 k, .int .i64 l, .int .i64 m]] w fun e w' => e = .returned (.bool true) ∧ Below W.heap.size W w' ∧ ∃ er' m0 m1 m2, PairAt ad rb g xb v bs (resS (.string ⟨#[]⟩) ⟨#[84, 101, 120, 116]⟩ pl ((txtR (bs.drop pl) m).map fun x => (.string x.1, x.2)) st).2.1 (resS (.string ⟨#[]⟩) ⟨#[84, 101, 120, 116]⟩ pl ((txtR (bs.drop pl) m).map fun x => (.string x.1, x.2)) st).2.2 er' m0 m1 m2 w' := by
  have hrow := RowAt.new w #[.int .i64 k, .int .i64 l, .int .i64 m] 59
  have hB := below_one w (.cells #[.int .i64 k, .int .i64 l, .int .i64 m] 59)
  have h1 := h.later hB
  have hlr : rb < w.heap.size := lt_of_heap h.rd.lies
  have hlx := h.xs.at_.row.lt
  have hW1 : Below W.heap.size W (w.alloc (.cells #[.int .i64 k, .int .i64 l, .int .i64 m] 59)) := bgo hW hB
  have hF : ∃ u0 : ByteArray, (resS (.string ⟨#[]⟩) ⟨#[84, 101, 120, 116]⟩ pl ((txtR (bs.drop pl) m).map fun x => (.string x.1, x.2)) st).1 = .string u0 := resS_form (P := fun u => ∃ n : ByteArray, u = .string n) ⟨_, rfl⟩ fun v k hv => by obtain ⟨x, hx⟩ := map_ok hv; exact ⟨_, hx⟩
  have HW := wo_Text (lwOf (L.below hW1)) h1.rd h1.er m
  have HX : ∀ w', XsAt xb v bs pl st n0 n1 n2 w' → Calls Tryd.prog 42 #[.pointer (some ⟨xb, 0, none⟩), .int .i64 m] w' (XOut xb v bs tp w' (resS (.string ⟨#[]⟩) ⟨#[84, 101, 120, 116]⟩ pl ((txtR (bs.drop pl) m).map fun x => (.string x.1, x.2)) st)) := fun w' hx => xo_Text hx hcap m
  generalize (resS (.string ⟨#[]⟩) ⟨#[84, 101, 120, 116]⟩ pl ((txtR (bs.drop pl) m).map fun x => (.string x.1, x.2)) st) = R at HW HX hF ⊢
  obtain ⟨rv, q, s⟩ := R
  obtain ⟨u0, hu⟩ := hF
  simp only at hu
  subst hu
  have HW := hid_of' HW
  have HX := hid_of' HX
  have H1 := hid_of' (And.intro h1 (And.intro hW1 L))
  have hne : w.heap.size ≠ rb ∧ w.heap.size ≠ xb := ⟨by omega, by omega⟩
  have d0 := hrow.cell 0
  have d1 := hrow.cell 1
  have d2 := hrow.cell 2
  simp only [List.getElem?_toArray, List.getElem?_cons_zero, List.getElem?_cons_succ] at d0 d1 d2
  clear h h1 hB hW hW1
  go_enter Tryd.func24, Tryd.ntmps24
  go_wp2_with (first
    | (go_at_call 8; refine (within5 _ _).mono ?_; rintro e w9 ⟨rfl, h9⟩; obtain rfl := h9.symm)
    | (go_at_call 41; (with_reducible refine HW.out.mono ?_); rintro e w2 ⟨er2, rfl, r2, e2, k2⟩; simp only [tp] at r2 e2 ⊢; have x2 := H1.out.1.wire k2; have row2 := hrow.kept k2 (by simp; exact hne.1); have f1 := row2.cell 1; have f2 := row2.cell 2; simp only [List.getElem?_toArray, List.getElem?_cons_zero, List.getElem?_cons_succ] at f1 f2)
    | (go_at_call 42; (with_reducible refine (HX.out _ x2).mono ?_); rintro e w3 ⟨m0, m1, m2, rfl, x3, k3⟩; simp only [tp] at x3 ⊢; have P3 := H1.out.1.both k2 r2 e2 x3 k3; have hB2 := H1.out.2.1.trans (k2.below (B := W.heap.size) (by simp; exact hrb) H1.out.2.1.size); have hB3 := hB2.trans (k3.below (B := W.heap.size) (by simp; exact hxb) hB2.size))
    | (refine wpL_stNo rfl _ _ rfl rfl rfl x3.no.one (RowAt.new _ zNo _) ?_; have hb4 := below_row (below_one w3 (.cells zNo 33)) (Nat.le_refl _) #[m0, m1, m2]; have row4 : RowAt w3.heap.size #[m0, m1, m2] 33 ((w3.alloc (.cells zNo 33)).setRow w3.heap.size #[m0, m1, m2]) := RowAt.put (RowAt.new w3 zNo _) _; have P4 := P3.later hb4; have hB4 := bgo hB3 hb4; have g0 := row4.cell 0; have g1 := row4.cell 1; have g2 := row4.cell 2; simp only [List.getElem?_toArray, List.getElem?_cons_zero, List.getElem?_cons_succ] at g0 g1 g2; generalize (w3.alloc (.cells zNo 33)).setRow w3.heap.size #[m0, m1, m2] = w4 at *)
    | (refine wpL_ldNo rfl _ rfl rfl (RowAt.in row4) ?_)
    | (go_at_call 15; (with_reducible refine (refused_pair (H1.out.2.2.below hB4) P4.er P4.xs.no).mono ?_); rintro e w5 ⟨rfl, hb5⟩; have P5 := P4.later hb5; have hB5 := bgo hB4 hb5))
  go_ret
  exact ⟨rfl, hB5, _, _, _, _, P5⟩

set_option maxHeartbeats 4000000 in
theorem call_Byte {ad : Nat → Addr} {rb g xb : Nat} {v : Value} {bs : List UInt8} {pl : Nat} {st : StO} {er n0 n1 n2 : Value} {W w : World} (L : Laid ad W) (hW : Below W.heap.size W w) (hrb : W.heap.size ≤ rb) (hxb : W.heap.size ≤ xb) (h : PairAt ad rb g xb v bs pl st er n0 n1 n2 w) (k l m : Int) (hk : k % 5 = 2) :
    Calls Tryd.prog 24 #[.pointer (some ⟨rb, 0, none⟩), .pointer (some ⟨xb, 0, none⟩), .agg #[.int .i64 k, .int .i64 l, .int .i64 m]] w fun e w' => e = .returned (.bool true) ∧ Below W.heap.size W w' ∧ ∃ er' m0 m1 m2, PairAt ad rb g xb v bs (resS (.int .u8 0) ⟨#[66, 121, 116, 101]⟩ pl ((byteR (bs.drop pl)).map fun x => (.int .u8 x.1, x.2)) st).2.1 (resS (.int .u8 0) ⟨#[66, 121, 116, 101]⟩ pl ((byteR (bs.drop pl)).map fun x => (.int .u8 x.1, x.2)) st).2.2 er' m0 m1 m2 w' := by
  have hrow := RowAt.new w #[.int .i64 k, .int .i64 l, .int .i64 m] 59
  have hB := below_one w (.cells #[.int .i64 k, .int .i64 l, .int .i64 m] 59)
  have h1 := h.later hB
  have hlr : rb < w.heap.size := lt_of_heap h.rd.lies
  have hlx := h.xs.at_.row.lt
  have hW1 : Below W.heap.size W (w.alloc (.cells #[.int .i64 k, .int .i64 l, .int .i64 m] 59)) := bgo hW hB
  have hF : ∃ u0 : Int, (resS (.int .u8 0) ⟨#[66, 121, 116, 101]⟩ pl ((byteR (bs.drop pl)).map fun x => (.int .u8 x.1, x.2)) st).1 = .int .u8 u0 := resS_form (P := fun u => ∃ n : Int, u = .int .u8 n) ⟨_, rfl⟩ fun v k hv => by obtain ⟨x, hx⟩ := map_ok hv; exact ⟨_, hx⟩
  have HW := wo_Byte (lwOf (L.below hW1)) h1.rd h1.er 
  have HX : ∀ w', XsAt xb v bs pl st n0 n1 n2 w' → Calls Tryd.prog 44 #[.pointer (some ⟨xb, 0, none⟩)] w' (XOut xb v bs tp w' (resS (.int .u8 0) ⟨#[66, 121, 116, 101]⟩ pl ((byteR (bs.drop pl)).map fun x => (.int .u8 x.1, x.2)) st)) := fun w' hx => xo_Byte hx 
  generalize (resS (.int .u8 0) ⟨#[66, 121, 116, 101]⟩ pl ((byteR (bs.drop pl)).map fun x => (.int .u8 x.1, x.2)) st) = R at HW HX hF ⊢
  obtain ⟨rv, q, s⟩ := R
  obtain ⟨u0, hu⟩ := hF
  simp only at hu
  subst hu
  have HW := hid_of' HW
  have HX := hid_of' HX
  have H1 := hid_of' (And.intro h1 (And.intro hW1 L))
  have hne : w.heap.size ≠ rb ∧ w.heap.size ≠ xb := ⟨by omega, by omega⟩
  have d0 := hrow.cell 0
  have d1 := hrow.cell 1
  have d2 := hrow.cell 2
  simp only [List.getElem?_toArray, List.getElem?_cons_zero, List.getElem?_cons_succ] at d0 d1 d2
  clear h h1 hB hW hW1
  go_enter Tryd.func24, Tryd.ntmps24
  go_wp2_with (first
    | (go_at_call 8; refine (within5 _ _).mono ?_; rintro e w9 ⟨rfl, h9⟩; obtain rfl := h9.symm)
    | (go_at_call 43; (with_reducible refine HW.out.mono ?_); rintro e w2 ⟨er2, rfl, r2, e2, k2⟩; simp only [tp] at r2 e2 ⊢; have x2 := H1.out.1.wire k2; have row2 := hrow.kept k2 (by simp; exact hne.1); have f1 := row2.cell 1; have f2 := row2.cell 2; simp only [List.getElem?_toArray, List.getElem?_cons_zero, List.getElem?_cons_succ] at f1 f2)
    | (go_at_call 44; (with_reducible refine (HX.out _ x2).mono ?_); rintro e w3 ⟨m0, m1, m2, rfl, x3, k3⟩; simp only [tp] at x3 ⊢; have P3 := H1.out.1.both k2 r2 e2 x3 k3; have hB2 := H1.out.2.1.trans (k2.below (B := W.heap.size) (by simp; exact hrb) H1.out.2.1.size); have hB3 := hB2.trans (k3.below (B := W.heap.size) (by simp; exact hxb) hB2.size))
    | (refine wpL_stNo rfl _ _ rfl rfl rfl x3.no.one (RowAt.new _ zNo _) ?_; have hb4 := below_row (below_one w3 (.cells zNo 33)) (Nat.le_refl _) #[m0, m1, m2]; have row4 : RowAt w3.heap.size #[m0, m1, m2] 33 ((w3.alloc (.cells zNo 33)).setRow w3.heap.size #[m0, m1, m2]) := RowAt.put (RowAt.new w3 zNo _) _; have P4 := P3.later hb4; have hB4 := bgo hB3 hb4; have g0 := row4.cell 0; have g1 := row4.cell 1; have g2 := row4.cell 2; simp only [List.getElem?_toArray, List.getElem?_cons_zero, List.getElem?_cons_succ] at g0 g1 g2; generalize (w3.alloc (.cells zNo 33)).setRow w3.heap.size #[m0, m1, m2] = w4 at *)
    | (refine wpL_ldNo rfl _ rfl rfl (RowAt.in row4) ?_)
    | (go_at_call 15; (with_reducible refine (refused_pair (H1.out.2.2.below hB4) P4.er P4.xs.no).mono ?_); rintro e w5 ⟨rfl, hb5⟩; have P5 := P4.later hb5; have hB5 := bgo hB4 hb5))
  go_ret
  exact ⟨rfl, hB5, _, _, _, _, P5⟩

set_option maxHeartbeats 4000000 in
theorem call_Count {ad : Nat → Addr} {rb g xb : Nat} {v : Value} {bs : List UInt8} {pl : Nat} {st : StO} {er n0 n1 n2 : Value} {W w : World} (L : Laid ad W) (hW : Below W.heap.size W w) (hrb : W.heap.size ≤ rb) (hxb : W.heap.size ≤ xb) (h : PairAt ad rb g xb v bs pl st er n0 n1 n2 w) (k l m : Int) (hk : k % 5 = 3) (hl1 : -9223372036854775808 ≤ l) (hl2 : l ≤ 9223372036854775807) :
    Calls Tryd.prog 24 #[.pointer (some ⟨rb, 0, none⟩), .pointer (some ⟨xb, 0, none⟩), .agg #[.int .i64 k, .int .i64 l, .int .i64 m]] w fun e w' => e = .returned (.bool true) ∧ Below W.heap.size W w' ∧ ∃ er' m0 m1 m2, PairAt ad rb g xb v bs (resS (.int .i64 0) ⟨#[67, 111, 117, 110, 116]⟩ pl ((cntR (bs.drop pl) l m).map fun x => (.int .i64 x.1, x.2)) st).2.1 (resS (.int .i64 0) ⟨#[67, 111, 117, 110, 116]⟩ pl ((cntR (bs.drop pl) l m).map fun x => (.int .i64 x.1, x.2)) st).2.2 er' m0 m1 m2 w' := by
  have hrow := RowAt.new w #[.int .i64 k, .int .i64 l, .int .i64 m] 59
  have hB := below_one w (.cells #[.int .i64 k, .int .i64 l, .int .i64 m] 59)
  have h1 := h.later hB
  have hlr : rb < w.heap.size := lt_of_heap h.rd.lies
  have hlx := h.xs.at_.row.lt
  have hW1 : Below W.heap.size W (w.alloc (.cells #[.int .i64 k, .int .i64 l, .int .i64 m] 59)) := bgo hW hB
  have hF : ∃ u0 : Int, (resS (.int .i64 0) ⟨#[67, 111, 117, 110, 116]⟩ pl ((cntR (bs.drop pl) l m).map fun x => (.int .i64 x.1, x.2)) st).1 = .int .i64 u0 := resS_form (P := fun u => ∃ n : Int, u = .int .i64 n) ⟨_, rfl⟩ fun v k hv => by obtain ⟨x, hx⟩ := map_ok hv; exact ⟨_, hx⟩
  have HW := wo_Count (lwOf (L.below hW1)) h1.rd h1.er l m hl1 hl2
  have HX : ∀ w', XsAt xb v bs pl st n0 n1 n2 w' → Calls Tryd.prog 46 #[.pointer (some ⟨xb, 0, none⟩), .int .i64 l, .int .i64 m] w' (XOut xb v bs tp w' (resS (.int .i64 0) ⟨#[67, 111, 117, 110, 116]⟩ pl ((cntR (bs.drop pl) l m).map fun x => (.int .i64 x.1, x.2)) st)) := fun w' hx => xo_Count hx l m
  generalize (resS (.int .i64 0) ⟨#[67, 111, 117, 110, 116]⟩ pl ((cntR (bs.drop pl) l m).map fun x => (.int .i64 x.1, x.2)) st) = R at HW HX hF ⊢
  obtain ⟨rv, q, s⟩ := R
  obtain ⟨u0, hu⟩ := hF
  simp only at hu
  subst hu
  have HW := hid_of' HW
  have HX := hid_of' HX
  have H1 := hid_of' (And.intro h1 (And.intro hW1 L))
  have hne : w.heap.size ≠ rb ∧ w.heap.size ≠ xb := ⟨by omega, by omega⟩
  have d0 := hrow.cell 0
  have d1 := hrow.cell 1
  have d2 := hrow.cell 2
  simp only [List.getElem?_toArray, List.getElem?_cons_zero, List.getElem?_cons_succ] at d0 d1 d2
  clear h h1 hB hW hW1
  go_enter Tryd.func24, Tryd.ntmps24
  go_wp2_with (first
    | (go_at_call 8; refine (within5 _ _).mono ?_; rintro e w9 ⟨rfl, h9⟩; obtain rfl := h9.symm)
    | (go_at_call 45; (with_reducible refine HW.out.mono ?_); rintro e w2 ⟨er2, rfl, r2, e2, k2⟩; simp only [tp] at r2 e2 ⊢; have x2 := H1.out.1.wire k2; have row2 := hrow.kept k2 (by simp; exact hne.1); have f1 := row2.cell 1; have f2 := row2.cell 2; simp only [List.getElem?_toArray, List.getElem?_cons_zero, List.getElem?_cons_succ] at f1 f2)
    | (go_at_call 46; (with_reducible refine (HX.out _ x2).mono ?_); rintro e w3 ⟨m0, m1, m2, rfl, x3, k3⟩; simp only [tp] at x3 ⊢; have P3 := H1.out.1.both k2 r2 e2 x3 k3; have hB2 := H1.out.2.1.trans (k2.below (B := W.heap.size) (by simp; exact hrb) H1.out.2.1.size); have hB3 := hB2.trans (k3.below (B := W.heap.size) (by simp; exact hxb) hB2.size))
    | (refine wpL_stNo rfl _ _ rfl rfl rfl x3.no.one (RowAt.new _ zNo _) ?_; have hb4 := below_row (below_one w3 (.cells zNo 33)) (Nat.le_refl _) #[m0, m1, m2]; have row4 : RowAt w3.heap.size #[m0, m1, m2] 33 ((w3.alloc (.cells zNo 33)).setRow w3.heap.size #[m0, m1, m2]) := RowAt.put (RowAt.new w3 zNo _) _; have P4 := P3.later hb4; have hB4 := bgo hB3 hb4; have g0 := row4.cell 0; have g1 := row4.cell 1; have g2 := row4.cell 2; simp only [List.getElem?_toArray, List.getElem?_cons_zero, List.getElem?_cons_succ] at g0 g1 g2; generalize (w3.alloc (.cells zNo 33)).setRow w3.heap.size #[m0, m1, m2] = w4 at *)
    | (refine wpL_ldNo rfl _ rfl rfl (RowAt.in row4) ?_)
    | (go_at_call 15; (with_reducible refine (refused_pair (H1.out.2.2.below hB4) P4.er P4.xs.no).mono ?_); rintro e w5 ⟨rfl, hb5⟩; have P5 := P4.later hb5; have hB5 := bgo hB4 hb5))
  go_ret
  exact ⟨rfl, hB5, _, _, _, _, P5⟩

set_option maxHeartbeats 4000000 in
theorem call_End {ad : Nat → Addr} {rb g xb : Nat} {v : Value} {bs : List UInt8} {pl : Nat} {st : StO} {er n0 n1 n2 : Value} {W w : World} (L : Laid ad W) (hW : Below W.heap.size W w) (hrb : W.heap.size ≤ rb) (hxb : W.heap.size ≤ xb) (h : PairAt ad rb g xb v bs pl st er n0 n1 n2 w) (k l m : Int) (hk : k % 5 = 4) :
    Calls Tryd.prog 24 #[.pointer (some ⟨rb, 0, none⟩), .pointer (some ⟨xb, 0, none⟩), .agg #[.int .i64 k, .int .i64 l, .int .i64 m]] w fun e w' => e = .returned (.bool true) ∧ Below W.heap.size W w' ∧ ∃ er' m0 m1 m2, PairAt ad rb g xb v bs (resS Value.nilIface ⟨#[69, 110, 100]⟩ pl ((endR (bs.drop pl)).map fun x => (.nilIface, x.2)) st).2.1 (resS Value.nilIface ⟨#[69, 110, 100]⟩ pl ((endR (bs.drop pl)).map fun x => (.nilIface, x.2)) st).2.2 er' m0 m1 m2 w' := by
  have hrow := RowAt.new w #[.int .i64 k, .int .i64 l, .int .i64 m] 59
  have hB := below_one w (.cells #[.int .i64 k, .int .i64 l, .int .i64 m] 59)
  have h1 := h.later hB
  have hlr : rb < w.heap.size := lt_of_heap h.rd.lies
  have hlx := h.xs.at_.row.lt
  have hW1 : Below W.heap.size W (w.alloc (.cells #[.int .i64 k, .int .i64 l, .int .i64 m] 59)) := bgo hW hB
  have hF : ∃ _ : Unit, (resS Value.nilIface ⟨#[69, 110, 100]⟩ pl ((endR (bs.drop pl)).map fun x => (.nilIface, x.2)) st).1 = .nilIface := resS_form (P := fun u => ∃ _ : Unit, u = .nilIface) ⟨(), rfl⟩ fun v k hv => by obtain ⟨x, hx⟩ := map_ok hv; exact ⟨(), hx⟩
  have HW := wo_End (lwOf (L.below hW1)) h1.rd h1.er 
  have HX : ∀ w', XsAt xb v bs pl st n0 n1 n2 w' → Calls Tryd.prog 48 #[.pointer (some ⟨xb, 0, none⟩)] w' (XOut xb v bs (fun _ b => b) w' (resS Value.nilIface ⟨#[69, 110, 100]⟩ pl ((endR (bs.drop pl)).map fun x => (.nilIface, x.2)) st)) := fun w' hx => xo_End hx 
  generalize (resS Value.nilIface ⟨#[69, 110, 100]⟩ pl ((endR (bs.drop pl)).map fun x => (.nilIface, x.2)) st) = R at HW HX hF ⊢
  obtain ⟨rv, q, s⟩ := R
  obtain ⟨u0, hu⟩ := hF
  simp only at hu
  subst hu
  have HW := hid_of' HW
  have HX := hid_of' HX
  have H1 := hid_of' (And.intro h1 (And.intro hW1 L))
  have hne : w.heap.size ≠ rb ∧ w.heap.size ≠ xb := ⟨by omega, by omega⟩
  have d0 := hrow.cell 0
  have d1 := hrow.cell 1
  have d2 := hrow.cell 2
  simp only [List.getElem?_toArray, List.getElem?_cons_zero, List.getElem?_cons_succ] at d0 d1 d2
  clear h h1 hB hW hW1
  go_enter Tryd.func24, Tryd.ntmps24
  go_wp2_with (first
    | (go_at_call 8; refine (within5 _ _).mono ?_; rintro e w9 ⟨rfl, h9⟩; obtain rfl := h9.symm)
    | (go_at_call 47; (with_reducible refine HW.out.mono ?_); rintro e w2 ⟨er2, rfl, r2, e2, k2⟩; try simp only at r2 e2 ⊢; have x2 := H1.out.1.wire k2; have row2 := hrow.kept k2 (by simp; exact hne.1); have f1 := row2.cell 1; have f2 := row2.cell 2; simp only [List.getElem?_toArray, List.getElem?_cons_zero, List.getElem?_cons_succ] at f1 f2)
    | (go_at_call 48; (with_reducible refine (HX.out _ x2).mono ?_); rintro e w3 ⟨m0, m1, m2, rfl, x3, k3⟩; try simp only at x3 ⊢; have P3 := H1.out.1.both k2 r2 e2 x3 k3; have hB2 := H1.out.2.1.trans (k2.below (B := W.heap.size) (by simp; exact hrb) H1.out.2.1.size); have hB3 := hB2.trans (k3.below (B := W.heap.size) (by simp; exact hxb) hB2.size))
    | (go_at_call 15; (with_reducible refine (refused_pair (H1.out.2.2.below hB3) P3.er P3.xs.no).mono ?_); rintro e w5 ⟨rfl, hb5⟩; have P5 := P3.later hb5; have hB5 := bgo hB3 hb5))
  go_ret
  exact ⟨rfl, hB5, _, _, _, _, P5⟩

/-- Where a reading leaves the place, and what it has refused. -/
def callR (k l m : Int) (bs : List UInt8) (pl : Nat) (st : StO) : Nat × StO :=
  if k % 5 = 0 then (resS (.int .i64 0) ⟨#[78, 117, 109, 98, 101, 114]⟩ pl ((numR (bs.drop pl) m).map fun x => (.int .i64 x.1, x.2)) st).2 else if k % 5 = 1 then (resS (.string ⟨#[]⟩) ⟨#[84, 101, 120, 116]⟩ pl ((txtR (bs.drop pl) m).map fun x => (.string x.1, x.2)) st).2 else if k % 5 = 2 then (resS (.int .u8 0) ⟨#[66, 121, 116, 101]⟩ pl ((byteR (bs.drop pl)).map fun x => (.int .u8 x.1, x.2)) st).2 else if k % 5 = 3 then (resS (.int .i64 0) ⟨#[67, 111, 117, 110, 116]⟩ pl ((cntR (bs.drop pl) l m).map fun x => (.int .i64 x.1, x.2)) st).2 else (resS Value.nilIface ⟨#[69, 110, 100]⟩ pl ((endR (bs.drop pl)).map fun x => (.nilIface, x.2)) st).2
theorem call_any {ad : Nat → Addr} {rb g xb : Nat} {v : Value} {bs : List UInt8} {pl : Nat} {st : StO} {er n0 n1 n2 : Value} {W w : World} (L : Laid ad W) (hW : Below W.heap.size W w) (hrb : W.heap.size ≤ rb) (hxb : W.heap.size ≤ xb) (h : PairAt ad rb g xb v bs pl st er n0 n1 n2 w) (k l m : Int) (hcap : ∀ a m c, v = .slice a m c → bs.length ≤ c) (hl1 : -9223372036854775808 ≤ l) (hl2 : l ≤ 9223372036854775807) :
    Calls Tryd.prog 24 #[.pointer (some ⟨rb, 0, none⟩), .pointer (some ⟨xb, 0, none⟩), .agg #[.int .i64 k, .int .i64 l, .int .i64 m]] w fun e w' => e = .returned (.bool true) ∧ Below W.heap.size W w' ∧ ∃ er' m0 m1 m2, PairAt ad rb g xb v bs (callR k l m bs pl st).1 (callR k l m bs pl st).2 er' m0 m1 m2 w' := by
  have hk : k % 5 = 0 ∨ k % 5 = 1 ∨ k % 5 = 2 ∨ k % 5 = 3 ∨ k % 5 = 4 := by omega
  rcases hk with hk | hk | hk | hk | hk
  · have e : callR k l m bs pl st = (resS (.int .i64 0) ⟨#[78, 117, 109, 98, 101, 114]⟩ pl ((numR (bs.drop pl) m).map fun x => (.int .i64 x.1, x.2)) st).2 := by unfold callR; rw [if_pos hk]
    rw [e]; exact call_Number L hW hrb hxb h k l m hk
  · have e : callR k l m bs pl st = (resS (.string ⟨#[]⟩) ⟨#[84, 101, 120, 116]⟩ pl ((txtR (bs.drop pl) m).map fun x => (.string x.1, x.2)) st).2 := by unfold callR; rw [if_neg (by omega), if_pos hk]
    rw [e]; exact call_Text L hW hrb hxb h k l m hk hcap
  · have e : callR k l m bs pl st = (resS (.int .u8 0) ⟨#[66, 121, 116, 101]⟩ pl ((byteR (bs.drop pl)).map fun x => (.int .u8 x.1, x.2)) st).2 := by unfold callR; rw [if_neg (by omega), if_neg (by omega), if_pos hk]
    rw [e]; exact call_Byte L hW hrb hxb h k l m hk
  · have e : callR k l m bs pl st = (resS (.int .i64 0) ⟨#[67, 111, 117, 110, 116]⟩ pl ((cntR (bs.drop pl) l m).map fun x => (.int .i64 x.1, x.2)) st).2 := by unfold callR; rw [if_neg (by omega), if_neg (by omega), if_neg (by omega), if_pos hk]
    rw [e]; exact call_Count L hW hrb hxb h k l m hk hl1 hl2
  · have e : callR k l m bs pl st = (resS Value.nilIface ⟨#[69, 110, 100]⟩ pl ((endR (bs.drop pl)).map fun x => (.nilIface, x.2)) st).2 := by unfold callR; rw [if_neg (by omega), if_neg (by omega), if_neg (by omega), if_neg (by omega)]
    rw [e]; exact call_End L hW hrb hxb h k l m hk
end Go.Proofs.YtfiajbgeijgheaaDoor
