
/-
  barrowlaw02.back: a row of Items is read by the calls that it was written by.
-/
import Derived.Test.YtfiajbgeijgheaaDoorBk0
import Derived.Test.YtfiajbgeijgheaaDoorCode
namespace Go.Proofs.YtfiajbgeijgheaaDoor
open Go.RowKit
set_option maxRecDepth 100000

theorem lw_laid {ad : Nat → Addr} {w : World} (L : Laid ad w) : Lw ad w := by
  refine ⟨fun k hk => ?_, ?_⟩
  · rcases hk with rfl | rfl | rfl | rfl
    · exact L.var 0 (by decide)
    · exact L.var 1 (by decide)
    · exact L.var 5 (by decide)
    · exact L.var 6 (by decide)
  · have h0 := lt_of_cell (L.var 0 (by decide))
    have h1 := lt_of_cell (L.var 1 (by decide))
    have h5 := lt_of_cell (L.var 5 (by decide))
    have h6 := lt_of_cell (L.var 6 (by decide))
    simp only [gix] at h0 h1 h5 h6
    omega
theorem rdOut_okB {ad : Nat → Addr} {rb g : Nat} {bs : List UInt8} {pl : Nat} {name : ByteArray} {w : World} {tup : Value → Value → Value} {z : Value} {res : Except Nat (Value × Nat)} {v : Value} {k : Nat} {e : Ending} {w' : World} (h : RdOut ad rb g bs pl name w tup z res e w') (hr : res = .ok (v, k)) : e = .returned (tup v .nilIface) ∧ RdAt rb g bs (pl + k) .nilIface w' ∧ Kept [rb] w w' := by
  subst hr; exact ⟨h.2.1, h.2.2, h.1⟩
theorem rdOut_errB {ad : Nat → Addr} {rb g : Nat} {bs : List UInt8} {pl : Nat} {name : ByteArray} {w : World} {tup : Value → Value → Value} {z : Value} {res : Except Nat (Value × Nat)} {c : Nat} {e : Ending} {w' : World} (h : RdOut ad rb g bs pl name w tup z res e w') (hr : res = .error c) : ∃ f, w.heap.size ≤ f ∧ e = .returned (tup z (refv f)) ∧ w'.heap[f]? = some (.cells #[.string ⟨#[119, 105, 114, 101]⟩, .string name, .int .i64 (pl : Int), rsn ad c] 96 (0, 0)) ∧ Kept [rb] w w' := by
  subst hr
  obtain ⟨hk, f, h1, h2, _, h4⟩ := h
  exact ⟨f, h1, h2, h4, hk⟩
/-- The number of a refusal of a reading. -/
theorem code_short {ad : Nat → Addr} {w : World} (L : Laid ad w) {f pl : Nat} {name : ByteArray} (hf : w.heap[f]? = some (.cells #[.string ⟨#[119, 105, 114, 101]⟩, .string name, .int .i64 (pl : Int), rsn ad 6] 96 (0, 0))) :
    Calls Tryd.prog 33 #[refv f] w fun e w' => e = .returned (.int .i64 7) ∧ Below w.heap.size w w' :=
  code_any (.fault f ⟨#[119, 105, 114, 101]⟩ name (pl : Int) (.rsn 6)) (by simp) (through_plain L _ (fun b g c k h => by simp [leaf] at h) ⟨lt_of_heap hf, hf, by simp, (by decide : 6 < 14)⟩)

/-- What back answers. -/
def BackQ (l : List Itm) (K : Nat) (w : World) (e : Ending) (w' : World) : Prop := Below w.heap.size w w' ∧ ((K = (formL l).length ∧ e = .returned (.tuple #[.int .i64 (l.length : Int), .int .i64 0])) ∨ (K < (formL l).length ∧ ∃ n : Nat, n < l.length ∧ e = .returned (.tuple #[.int .i64 (n : Int), .int .i64 7])))

set_option maxHeartbeats 4000000 in
theorem back_any {ad : Nat → Addr} {w : World} {v mv : Value} {bs : List UInt8} {l : List Itm} {K : Nat} (L : Laid ad w) (hv : SlB w v bs) (hm : SlI w mv l) (hall : ∀ x ∈ l, x.Fit ∧ x.may = true) (hbs : bs = (formL l).take K) (hK : K ≤ (formL l).length) (hlen : bs.length ≤ 1000000) (hl : l.length ≤ 1000000) :
    Calls Tryd.prog 29 #[v, mv] w (BackQ l K w) := by
  have HN := hid_of' (newReader_any hv hlen (lw_laid L).size)
  obtain ⟨a1, c1, rfl⟩ := hm.form
  have H0 := hid_of' (And.intro L (And.intro hm (And.intro hall hK)))
  have hB0 : BkI l K bs 0 0 := by rw [hbs]; exact BkI.start
  clear L hv hm hall hbs hlen hK
  go_enter Tryd.func29, Tryd.ntmps29
  go_upto_region 4 with (go_at_call 22; refine HN.out.mono ?_; rintro e w1 ⟨rb, rfl, hr1, hlo, hb1⟩)
  clear HN
  go_wp2_with fail
  go_loopw [7] (fun iv wr => ∃ i pl : Nat, iv = .int .i64 (i : Int) ∧ i ≤ l.length ∧ RdAt rb w.heap.size bs pl .nilIface wr ∧ Below w.heap.size w wr ∧ Hid (BkI l K bs i pl)) (fun iv _ => l.length - (intOf iv).toNat)
  case atStart => exact ⟨0, 0, rfl, Nat.zero_le _, hr1, hb1, hB0⟩
  case round =>
    clear hr1 hb1 hB0
    obtain ⟨i, pl, rfl, hi, hr, hB, HI⟩ := hrel
    have hLr := H0.out.1.below hB
    by_cases hlt : i < l.length
    · have hii : (i : Int) < (l.length : Int) := by omega
      have hkt : (i : Int).toNat = i := by omega
      obtain ⟨x, hx⟩ : ∃ x, l[i]? = some x := ⟨_, List.getElem?_eq_getElem hlt⟩
      obtain ⟨g, o, h1, hg, hI⟩ := H0.out.2.1.some hx
      subst h1
      have hfm := H0.out.2.2.1 x (List.mem_of_getElem? hx)
      have hI2 := hI.later hg hB
      have HX := hid_of' (And.intro hx (And.intro hfm (And.intro hI hg)))
      obtain ⟨xk, xn, xs, xb⟩ := x
      obtain ⟨d0, _, _, _⟩ := hI2
      simp only at d0
      have hkind : xk % 3 = 0 ∨ xk % 3 = 1 ∨ xk % 3 = 2 := by omega
      clear hx hfm hI
      rcases hkind with hq | hq | hq
      · obtain ⟨q, hqn⟩ : ∃ q : Nat, xn = (q : Int) := ⟨xn.toNat, by have := HX.out.2.1.2; simp [Itm.may, hq] at this; omega⟩
        subst hqn
        have HD := hid_of' (Number_any (lw_laid hLr) hr 9223372036854775807)
        have HL := hid_of' (item_num (x := ⟨xk, (q : Int), xs, xb⟩) hq rfl HX.out.2.1.1)
        by_cases hj : (Itm.mk xk (q : Int) xs xb).form.length ≤ K - pl
        · obtain ⟨r, hr0⟩ := HI.out.rest HX.out.1 hj
          have HE := hid_of' (show (numR (bs.drop pl) 9223372036854775807).map (fun x => (Value.int .i64 x.1, x.2)) = .ok (.int .i64 (q : Int), (Itm.mk xk (q : Int) xs xb).form.length) by rw [hr0, HL.out.1 r]; rfl)
          have HI2 := hid_of' (HI.out.next HX.out.1 hj)
          clear hj hr0
          go_wp2_with (first | (go_at_call 8; refine (within3 _ _).mono ?_; rintro e w9 ⟨rfl, h9⟩; obtain rfl := h9.symm) | (go_at_call 39; (with_reducible refine HD.out.mono ?_); intro e w2 h2; obtain ⟨rfl, hr2, hk2⟩ := rdOut_okB h2 HE.out; clear h2; have hB2 := hB.trans (hk2.below (B := w.heap.size) (by simp; omega) hB.size); have d := (HX.out.2.2.1.later HX.out.2.2.2 hB2).2.1; simp only at d))
          go_roundw
          case rel => exact ⟨i + 1, _, by go_num, by omega, hr2, hB2, HI2.out⟩
          case measure => simp [intOf]; omega
        · obtain ⟨j, hj1, hr0⟩ := HI.out.cut HX.out.1 hj
          have HE := hid_of' (show (numR (bs.drop pl) 9223372036854775807).map (fun x => (Value.int .i64 x.1, x.2)) = .error 6 by rw [hr0, HL.out.2 j hj1]; rfl)
          have HS := hid_of' (HI.out.stop HX.out.1 hj)
          clear hj hr0
          go_wp2_with (first | (go_at_call 8; refine (within3 _ _).mono ?_; rintro e w9 ⟨rfl, h9⟩; obtain rfl := h9.symm) | (go_at_call 39; (with_reducible refine HD.out.mono ?_); intro e w2 h2; obtain ⟨f, _, rfl, hf, hk2⟩ := rdOut_errB h2 HE.out; clear h2; have hB2 := hB.trans (hk2.below (B := w.heap.size) (by simp; omega) hB.size); have d := (HX.out.2.2.1.later HX.out.2.2.2 hB2).2.1; simp only at d) | (go_at_call 33; refine (code_short (H0.out.1.below hB2) hf).mono ?_; rintro e w3 ⟨rfl, hb3⟩))
          go_ret2
          exact ⟨bgo hB2 hb3, .inr ⟨HS.out.1, i, HS.out.2, rfl⟩⟩
      · have HD := hid_of' (Text_any (lw_laid hLr) hr 9223372036854775807)
        have HL := hid_of' (item_txt (x := ⟨xk, xn, xs, xb⟩) hq HX.out.2.1.2)
        by_cases hj : (Itm.mk xk xn xs xb).form.length ≤ K - pl
        · obtain ⟨r, hr0⟩ := HI.out.rest HX.out.1 hj
          have HE := hid_of' (show (txtR (bs.drop pl) 9223372036854775807).map (fun x => (Value.string x.1, x.2)) = .ok (.string xs, (Itm.mk xk xn xs xb).form.length) by rw [hr0, HL.out.1 r]; rfl)
          have HI2 := hid_of' (HI.out.next HX.out.1 hj)
          clear hj hr0
          go_wp2_with (first | (go_at_call 8; refine (within3 _ _).mono ?_; rintro e w9 ⟨rfl, h9⟩; obtain rfl := h9.symm) | (go_at_call 41; (with_reducible refine HD.out.mono ?_); intro e w2 h2; obtain ⟨rfl, hr2, hk2⟩ := rdOut_okB h2 HE.out; clear h2; have hB2 := hB.trans (hk2.below (B := w.heap.size) (by simp; omega) hB.size); have d := (HX.out.2.2.1.later HX.out.2.2.2 hB2).2.2.1; simp only at d))
          go_roundw
          case rel => exact ⟨i + 1, _, by go_num, by omega, hr2, hB2, HI2.out⟩
          case measure => simp [intOf]; omega
        · obtain ⟨j, hj1, hr0⟩ := HI.out.cut HX.out.1 hj
          have HE := hid_of' (show (txtR (bs.drop pl) 9223372036854775807).map (fun x => (Value.string x.1, x.2)) = .error 6 by rw [hr0, HL.out.2 j hj1]; rfl)
          have HS := hid_of' (HI.out.stop HX.out.1 hj)
          clear hj hr0
          go_wp2_with (first | (go_at_call 8; refine (within3 _ _).mono ?_; rintro e w9 ⟨rfl, h9⟩; obtain rfl := h9.symm) | (go_at_call 41; (with_reducible refine HD.out.mono ?_); intro e w2 h2; obtain ⟨f, _, rfl, hf, hk2⟩ := rdOut_errB h2 HE.out; clear h2; have hB2 := hB.trans (hk2.below (B := w.heap.size) (by simp; omega) hB.size); have d := (HX.out.2.2.1.later HX.out.2.2.2 hB2).2.2.1; simp only at d) | (go_at_call 33; refine (code_short (H0.out.1.below hB2) hf).mono ?_; rintro e w3 ⟨rfl, hb3⟩))
          go_ret2
          exact ⟨bgo hB2 hb3, .inr ⟨HS.out.1, i, HS.out.2, rfl⟩⟩
      · have HD := hid_of' (Byte_any (lw_laid hLr) hr)
        have HL := hid_of' (item_byte (x := ⟨xk, xn, xs, xb⟩) hq)
        by_cases hj : (Itm.mk xk xn xs xb).form.length ≤ K - pl
        · obtain ⟨r, hr0⟩ := HI.out.rest HX.out.1 hj
          have HE := hid_of' (show (byteR (bs.drop pl)).map (fun x => (Value.int .u8 x.1, x.2)) = .ok (.int .u8 (xb.toNat : Int), (Itm.mk xk xn xs xb).form.length) by rw [hr0, HL.out.1 r]; rfl)
          have HI2 := hid_of' (HI.out.next HX.out.1 hj)
          clear hj hr0
          go_wp2_with (first | (go_at_call 8; refine (within3 _ _).mono ?_; rintro e w9 ⟨rfl, h9⟩; obtain rfl := h9.symm) | (go_at_call 43; (with_reducible refine HD.out.mono ?_); intro e w2 h2; obtain ⟨rfl, hr2, hk2⟩ := rdOut_okB h2 HE.out; clear h2; have hB2 := hB.trans (hk2.below (B := w.heap.size) (by simp; omega) hB.size); have d := (HX.out.2.2.1.later HX.out.2.2.2 hB2).2.2.2; simp only at d))
          go_roundw
          case rel => exact ⟨i + 1, _, by go_num, by omega, hr2, hB2, HI2.out⟩
          case measure => simp [intOf]; omega
        · obtain ⟨j, hj1, hr0⟩ := HI.out.cut HX.out.1 hj
          have HE := hid_of' (show (byteR (bs.drop pl)).map (fun x => (Value.int .u8 x.1, x.2)) = .error 6 by rw [hr0, HL.out.2 j hj1]; rfl)
          have HS := hid_of' (HI.out.stop HX.out.1 hj)
          clear hj hr0
          go_wp2_with (first | (go_at_call 8; refine (within3 _ _).mono ?_; rintro e w9 ⟨rfl, h9⟩; obtain rfl := h9.symm) | (go_at_call 43; (with_reducible refine HD.out.mono ?_); intro e w2 h2; obtain ⟨f, _, rfl, hf, hk2⟩ := rdOut_errB h2 HE.out; clear h2; have hB2 := hB.trans (hk2.below (B := w.heap.size) (by simp; omega) hB.size); have d := (HX.out.2.2.1.later HX.out.2.2.2 hB2).2.2.2; simp only at d) | (go_at_call 33; refine (code_short (H0.out.1.below hB2) hf).mono ?_; rintro e w3 ⟨rfl, hb3⟩))
          go_ret2
          exact ⟨bgo hB2 hb3, .inr ⟨HS.out.1, i, HS.out.2, rfl⟩⟩
    · have hii : ¬ (i : Int) < (l.length : Int) := by omega
      obtain rfl : i = l.length := by omega
      obtain ⟨hKe, hend⟩ := HI.out.over H0.out.2.2.2
      have HE := hid_of' (show (endR (bs.drop pl)).map (fun x => (Value.nilIface, x.2)) = .ok (.nilIface, 0) by rw [hend]; rfl)
      have HD := hid_of' (End_any (lw_laid hLr) hr)
      go_wp2_with (first | (go_at_call 47; refine HD.out.mono ?_; intro e w2 h2; obtain ⟨rfl, hr2, hk2⟩ := rdOut_okB h2 HE.out; clear h2) | (go_at_call 33; refine (code_nil _).mono ?_; rintro e w3 ⟨rfl, h0⟩; obtain rfl := h0.symm))
      go_ret2
      exact ⟨hB.trans (hk2.below (B := w.heap.size) (by simp; omega) hB.size), .inl ⟨hKe, rfl⟩⟩
end Go.Proofs.YtfiajbgeijgheaaDoor
