
/-
  (*strings.Builder).WriteRune at a builder of the call's own.
  Find of a place that there is not; Slice.
-/
import Derived.Test.YtdafkakigigdeaaGreatDoorBld
import Derived.Test.YtdafkakigigdeaaGreatDoorTrEl
import Derived.Test.YtdafkakigigdeaaGreatDoorMd3
import Derived.Test.YtdafkakigigdeaaGreatDoorTrBad
namespace Go.Proofs.YtdafkakigigdeaaGreatDoor
open Go.RowKit Go.Extern.Stop Go.Stop Go.Extern
set_option maxRecDepth 100000

theorem appendRune_any (B : Nat) (v : Value) (n : Nat) (xs : List Value) (r : Int) (hr0 : -2147483648 ≤ r) (hr1 : r ≤ 2147483647) (w : World) (hown : w.ownsRow B 5 1 v n xs) (hlen : n + 4 ≤ 140737488355328) (hBw : B ≤ w.heap.size) :
    Calls Tryz.prog 67 #[v, .int .i32 r] w fun e w' => ∃ v', e = .returned v' ∧ w'.ownsRow B 5 1 v' (n + (Lib.runeCells r).length) (xs ++ Lib.runeCells r) ∧ ∃ o, (w.alloc o).grownBy w' v.ownBlock :=
  Any.utf8_AppendRune_plain Tryz.lays242 (by kernel_rfl) B v n xs r hr0 hr1 w hown hlen hBw

set_option maxHeartbeats 2000000 in
theorem writeRune_any (B b : Nat) (bs : List Value) (r : Int) (hr0 : -2147483648 ≤ r) (hr1 : r ≤ 2147483647) (w : World) (h : Bld B b bs w) (hlen : bs.length + 4 ≤ 140737488355328) (hBw : B ≤ w.heap.size) :
    Calls Tryz.prog 30 #[.pointer (some ⟨b, 0, none⟩), .int .i32 r] w fun e w' => (∃ k, e = .returned (.tuple #[.int .i64 k, .nilIface])) ∧ Bld B b (bs ++ Lib.runeCells r) w' ∧ Below B w w' := by
  go_enter Tryz.func30, Tryz.ntmps30
  go_wp2_with (go_at_call 66; refine (copyCheck_any B b bs _ h).mono ?_)
  rintro e w1 ⟨rfl, h1, hb1⟩
  obtain ⟨hB, v, hbk, hown, hne⟩ := h1
  have c0 : w1.cell? ⟨b, 0, none⟩ = some (.pointer (some ⟨b, 0, none⟩)) := by rw [Lib.cell_of_heap hbk]; rfl
  have c1 : w1.cell? ⟨b, 1, none⟩ = some v := by rw [Lib.cell_of_heap hbk]; rfl
  have hs1 := hb1.size
  have HA := hid_of' (appendRune_any B v bs.length bs r hr0 hr1 w1 hown hlen (by omega))
  obtain ⟨ao, cap, rfl⟩ : ∃ ao cap, v = .slice ao bs.length cap := by
    rcases hown.2 with ⟨hv, h0⟩ | ⟨g, cap, cur, hv, _⟩
    · exact ⟨none, 0, by rw [hv, h0]⟩
    · exact ⟨_, _, hv⟩
  go_wp2_with (go_at_call 67; refine HA.out.mono ?_)
  rintro e w2 ⟨v', rfl, hown', o, hgrow⟩
  have hlt : b < w1.heap.size := (Array.getElem?_eq_some_iff.1 hbk).1
  have hb2 : w2.heap[b]? = some (.cells #[.pointer (some ⟨b, 0, none⟩), .slice ao bs.length cap] 74 (0, 0)) := by
    rw [hgrow.block b (by simp; omega) (fun e => hne e.symm), Below.heap_alloc w1 _ b hlt]
    exact hbk
  have d1 : w2.cell? ⟨b, 1, none⟩ = some (.slice ao bs.length cap) := by rw [Lib.cell_of_heap hb2]; rfl
  have d0 : w2.cell? ⟨b, 0, none⟩ = some (.pointer (some ⟨b, 0, none⟩)) := by rw [Lib.cell_of_heap hb2]; rfl
  have f1 : w2.frozen? ⟨b, 1, none⟩ = false := Lib.frozen_of_heap hb2 1
  obtain ⟨va, vn, vc, hv'⟩ : ∃ a k c, v' = .slice a k c := by
    rcases hown'.2 with ⟨hv, _⟩ | ⟨g, cap, cur, hv, _⟩
    · exact ⟨_, _, _, hv⟩
    · exact ⟨_, _, _, hv⟩
  rw [hv'] at hown' ⊢
  clear hv'
  have hput := Lib.BuilderAt.put (T := 74) (e := 5) hB hb2 (bs' := bs ++ Lib.runeCells r) (by simpa using hown') (by decide)
  have hbl := ((hb1.alloc (by omega) o).grown hgrow (by simp; omega) (fun k hk => (hown.lt k hk).1)).setCell (p := ⟨b, 1, none⟩) hB (.slice va vn vc)
  go_wp2
  go_ret2
  exact ⟨⟨_, rfl⟩, .inr hput, hbl⟩
end Go.Proofs.YtdafkakigigdeaaGreatDoor
namespace Go.Proofs.YtdafkakigigdeaaGreatDoor
open Go.RowKit Go.Extern.Stop Go.Stop Go.Extern
set_option maxRecDepth 100000

theorem BldM_keep {B b : Nat} {bs : List Value} {w w' : World} (h : Bld B b bs w) (hb : Below w.heap.size w w') : Bld B b bs w' := by
  have key : ∀ p, Lib.BuilderAt 74 5 B b p bs w → Lib.BuilderAt 74 5 B b p bs w' := by
    rintro p ⟨h1, v, h2, h3, h4⟩
    have hlt := (Array.getElem?_eq_some_iff.1 h2).1
    refine ⟨h1, v, (hb.block _ hlt).trans h2, ?_, h4⟩
    obtain ⟨e1, e2⟩ := h3
    refine ⟨e1, ?_⟩
    rcases e2 with h | ⟨g, cap, cur, q1, q2, q3, q4⟩
    · exact .inl h
    · exact .inr ⟨g, cap, cur, q1, q2, (hb.block _ (Array.getElem?_eq_some_iff.1 q3).1).trans q3, q4⟩
  exact h.imp (key _) (key _)
theorem BldM_row {B b g : Nat} {bs : List Value} {w : World} {cs : Array Value} {ty : TypeId} (h : Bld B b bs w) (hg : RowAt g cs ty w) (h1 : ¬ ty = 74) (h2 : ¬ ty = 5) (c : Array Value) : Bld B b bs (w.setRow g c) := by
  have key : ∀ p, Lib.BuilderAt 74 5 B b p bs w → Lib.BuilderAt 74 5 B b p bs (w.setRow g c) := by
    rintro p ⟨q1, v, q2, q3, q4⟩
    have hne : ¬ b = g := fun e => by subst e; rw [show w.heap[b]? = _ from hg] at q2; cases q2; exact h1 rfl
    refine ⟨q1, v, (setRow_other w g b c hne).trans q2, ?_, q4⟩
    obtain ⟨e1, e2⟩ := q3
    refine ⟨e1, ?_⟩
    rcases e2 with h | ⟨g2, cap, cur, r1, r2, r3, r4⟩
    · exact .inl h
    · have hne2 : ¬ g2 = g := fun e => by subst e; rw [show w.heap[g2]? = _ from hg] at r3; cases r3; exact h2 rfl
      exact .inr ⟨g2, cap, cur, r1, r2, (setRow_other w g g2 c hne2).trans r3, r4⟩
  exact h.imp (key _) (key _)
theorem LaidV {ad : Nat → Addr} {w : World} (L : Laid ad w) : w.cell? ⟨1, 0, none⟩ = some (.iface 249 (.pointer (some (ad 1)))) := L.var 1 (by decide)
set_option maxHeartbeats 400000 in
theorem outOfRange_any {ad : Nat → Addr} (ca : ByteArray) (at_ : Int) {w : World} (L : Laid ad w) :
    Calls Tryz.prog 74 #[.string ca, .int .i64 at_] w fun e w' => e = .returned (.iface 137 (.pointer (some ⟨w.heap.size, 0, none⟩))) ∧ FaultAt ad w.heap.size bTree ca (place at_) 1 w' ∧ Below w.heap.size w w' := by
  have LV := LaidV L
  have HF := hid_of' (newT (ad := ad) bTree ca at_ 1 w)
  clear L
  go_enter Tryz.func74, Tryz.ntmps74
  go_wp2_with (go_at_call 58; refine HF.out.mono ?_; rintro r w1 ⟨rfl, hf, hb1⟩)
  go_ret
  exact ⟨rfl, hf, hb1⟩
def bFind : ByteArray := ⟨#[70, 105, 110, 100]⟩
set_option maxHeartbeats 1000000 in
theorem find_out {ad : Nat → Addr} {R : Rows} {b ch : Nat} {l : List El} {w : World} (h : TrL R b ch l w) (L : Laid ad w) (k : Int) (hk0 : 0 ≤ k) (hk1 : liveL l ≤ k) :
    Calls Tryz.prog 98 #[pv b, .int .i64 k] w fun r w' => ∃ g, r = .returned (.tuple #[.int .i64 0, .iface 137 (.pointer (some ⟨g, 0, none⟩))]) ∧ Below w.heap.size w w' := by
  have HW := hid_of' (weight_L h)
  have HO : Hid (∀ x, Below w.heap.size w x → _) := fun x hx => outOfRange_any bFind k (L.below hx)
  have hfl := field_live (liveL l) (lineL l)
  have e1 : ¬ k < 0 := by omega
  unfold pv wv at *
  clear h L
  go_enter Tryz.func98, Tryz.ntmps98
  go_wp2_with (first | (go_at_call 68; refine HW.out.mono ?_; rintro r w1 ⟨rfl, hb1⟩) | (go_at_call 74; refine (HO.out _ hb1).mono ?_; rintro r w2 ⟨rfl, _, hb2⟩))
  go_ret2
  exact ⟨_, rfl, bgo hb1 hb2⟩

/-- Characters of Go's int32. -/
def Ch32 (l : List El) : Prop := ∀ (i : Nat) (e : El), l[i]? = some e → -2147483648 ≤ e.ch ∧ e.ch ≤ 2147483647
theorem find_md {ad : Nat → Addr} {R : Rows} {b ch : Nat} {l : List El} {w : World} (h : TrL R b ch l w) (L : Laid ad w) (k n : Nat) (hn : l.length ≤ 1073741824) (hk : (k : Int) + n ≤ liveL l) :
    Calls Tryz.prog 98 #[pv b, .int .i64 (k : Int)] w fun r w' => ∃ (i : Nat) (v : Value), r = .returned (.tuple #[.int .i64 (i : Int), v]) ∧ (0 < n → liveL (l.take i) = k) ∧ Below w.heap.size w w' := by
  by_cases h1 : (k : Int) < liveL l
  · refine (find_L h k hn (by omega) h1).mono ?_
    rintro r w1 ⟨rfl, hb1⟩
    obtain ⟨e, _, _, a3⟩ := idxL_spec l k (by omega) h1
    exact ⟨_, _, rfl, fun _ => a3, hb1⟩
  · refine (find_out h L k (by omega) (by omega)).mono ?_
    rintro r w1 ⟨g, rfl, hb1⟩
    exact ⟨0, _, rfl, fun h => by omega, hb1⟩
theorem enc_next {v : List Int} {p j : Nat} {c : Int} (h : v[p + j]? = some c) : encL ((v.drop p).take (j + 1)) = encL ((v.drop p).take j) ++ Lib.encodeRune c := by
  have h2 : (v.drop p)[j]? = some c := by rw [List.getElem?_drop]; exact h
  have h3 : (v.drop p).take (j + 1) = (v.drop p).take j ++ [c] := by
    rw [List.take_add_one, h2]; rfl
  rw [h3, encL_app, encL_one]

set_option maxHeartbeats 2000000 in
theorem slice_ok {ad : Nat → Addr} {mb : Nat} {l : List El} {w : World} (h : MvAt mb l w) (L : Laid ad w) (p n : Nat) (hn : l.length ≤ 1000000) (hp : (p : Int) + n ≤ liveL l) (hc : Ch32 l) :
    Calls Tryz.prog 69 #[pv mb, .int .i64 (p : Int), .int .i64 (n : Int)] w fun r w' => r = .returned (.tuple #[.string ⟨(encL (((vis l).drop p).take n)).toArray⟩, .nilIface]) ∧ Below w.heap.size w w' := by
  have HV : Hid (∀ x, Below w.heap.size w x → _) := fun x hx => live_md (h.later hx)
  have e1 : ¬ (p : Int) < 0 := by omega
  have e2 : ¬ (n : Int) < 0 := by omega
  have e3 : ¬ liveL l < (p : Int) := by omega
  have e4 : ¬ wrap64 (liveL l - (p : Int)) < (n : Int) := by
    have := liveL_b l
    rw [wrapIs (by omega) (by omega)]; omega
  unfold pv at *
  go_enter Tryz.func69, Tryz.ntmps69
  go_upto_region 3 with (go_at_call 59; first | ((with_reducible refine (HV.out _ (Below.refl _ _)).mono ?_); rintro r w1 ⟨rfl, hb1⟩) | ((with_reducible refine (HV.out _ hb1).mono ?_); rintro r w2 ⟨rfl, hb2⟩))
  rename_i hz K0 hK0
  clear hz e1 e2 e3 e4 HV
  obtain ⟨tb, v, R, h1, h2⟩ := h
  have hB2 := bgo hb1 hb2
  replace h1 := h1.later hB2
  replace h2 := h2.later hB2
  replace L := L.below hB2
  clear hb1 hb2
  have hN : l.length ≤ 1073741824 := by omega
  have c0 : ∀ x, Below w2.heap.size w2 x → x.cell? ⟨mb, 0, none⟩ = some (.pointer (some ⟨tb, 0, none⟩)) := fun x hx => (h1.later hx).cell 0
  have HF : Hid (∀ x, Below w2.heap.size w2 x → _) := fun x hx => find_md (h2.later hx) (L.below hx) p n hN hp
  have HQ : Hid (∀ x, Below w2.heap.size w2 x → ∀ k : Int, 0 ≤ k → k < liveL l → _) := fun x hx k q1 q2 => find_L (h2.later hx) k hN q1 q2
  have HA : Hid (∀ x, Below w2.heap.size w2 x → ∀ (i : Nat) (e : El), l[i]? = some e → _) := fun x hx i e he => at_L (h2.later hx) i e hN he
  have HL := hid_of' (isLive_any)
  have hnw := below_one w2 (.cells #[.pointer none, .slice none 0 0] 74)
  have d0 := c0 _ hnw
  unfold pv at HF HA HQ
  clear h1 h2 L v
  go_wp2_with (go_at_call 98; (with_reducible refine (HF.out _ hnw).mono ?_); rintro r w3 ⟨i0, v0, rfl, hi0, hb3⟩)
  clear HF d0
  go_loopw [9, 11] (fun iv kv wr => ∃ i j : Nat, iv = .int .i64 (i : Int) ∧ kv = .int .i64 ((p : Int) + (j : Int)) ∧ j ≤ n ∧ (j < n → liveL (l.take i) = ((p : Int) + (j : Int))) ∧ Bld w2.heap.size w2.heap.size (Lib.byteCells (encL (((vis l).drop p).take j))) wr ∧ Below w2.heap.size w2 wr) (fun _ kv _ => p + n - (intOf kv).toNat)
  case atStart =>
    refine ⟨i0, 0, rfl, by simp, Nat.zero_le _, fun h => by rw [hi0 h]; omega, ?_, bgo hnw hb3⟩
    exact BldM_keep (Lib.fresh_isBuilder 74 5 w2) hb3
  case round =>
    obtain ⟨i, j, rfl, rfl, hj, hi, hbd, hB⟩ := hrel
    clear hi0 hb3 hnw
    have hlb := liveL_b l
    have hsz := hB.size
    by_cases hjn : j < n
    · have e6 : ((p : Int) + (j : Int)) < wrap64 ((p : Int) + (n : Int)) := by rw [wrapIs (by omega) (by omega)]; omega
      have hkl : ((p : Int) + (j : Int)) < liveL l := by omega
      have hi1 := hi hjn
      have hil := live_lt hi1 hkl
      obtain ⟨e0, he0⟩ : ∃ e, l[i]? = some e := ⟨_, List.getElem?_eq_getElem hil⟩
      have d0 := c0 _ hB
      have HP := hid_of' hB
      have HLB := hid_of' (show 0 ≤ liveL l ∧ liveL l ≤ l.length ∧ i < l.length from ⟨hlb.1, hlb.2, hil⟩)
      clear hlb
      go_upto_region 9 with (first | (go_at_call 99; (with_reducible refine (HA.out _ hB i e0 he0).mono ?_); rintro r w4 ⟨rfl, hb4⟩) | (refine wpL_storeE rfl _ _ rfl rfl rfl (row_new w4 _ _) ?_))
      have hr5 := (row_new w4 #[.int .i64 0, .int .i64 0, .int .i64 0, .int .i32 0, .int .i64 0] 65).put (ev e0)
      have hB5 : Below w4.heap.size w4 ((w4.alloc (.cells #[.int .i64 0, .int .i64 0, .int .i64 0, .int .i32 0, .int .i64 0] 65)).setRow w4.heap.size (ev e0)) := below_row (below_one w4 _) (Nat.le_refl _) _
      generalize (w4.alloc (.cells #[.int .i64 0, .int .i64 0, .int .i64 0, .int .i32 0, .int .i64 0] 65)).setRow w4.heap.size (ev e0) = W5 at hr5 hB5 ⊢
      have hb5 := bgo hb4 hB5
      have hB6 := hB.trans (hb5.mono hsz)
      have hbd5 := BldM_keep hbd hb5
      have hg : w2.heap.size ≤ w4.heap.size := Nat.le_trans hsz hb4.size
      clear hbd hb5 hB5 hb4 hi d0 hil e6
      generalize w4.heap.size = g at hr5 hg ⊢
      by_cases hlv : e0.hd > 0
      · have HI : Hid (∀ x, Calls Tryz.prog 29 #[.agg (ev e0)] x fun r w' => r = .returned (.bool false) ∧ Below x.heap.size x w') := fun x => by
          have := HL.out e0 x
          rw [show decide (e0.hd ≤ 0) = false by simp; omega] at this
          exact this
        obtain ⟨e1, q1, q2, q3⟩ := idxL_spec l ((p : Int) + (j : Int)) (by omega) hkl
        generalize hix : idxL l ((p : Int) + (j : Int)) = i1 at q1 q3
        have HF : Hid (∀ x, Below w2.heap.size w2 x → Calls Tryz.prog 98 #[.pointer (some ⟨tb, 0, none⟩), .int .i64 ((p : Int) + (j : Int))] x fun r w' => r = .returned (.tuple #[.int .i64 (i1 : Int), .nilIface]) ∧ Below x.heap.size x w') := fun x hx => by
          have := HQ.out x hx ((p : Int) + (j : Int)) (by omega) hkl
          rw [hix] at this
          exact this
        clear hix hi1 he0 hkl hlv
        go_upto_region 10 with (first | (refine wpL_loadE rfl _ rfl rfl hr5.in ?_) | (go_at_call 29; refine (HI.out _).mono ?_; rintro r w6 ⟨rfl, hb6⟩))
        have hB7 := hB6.trans (hb6.mono hB6.size)
        have hbd6 := BldM_keep hbd5 hb6
        have hr6 := hr5.later hb6
        have d6 := c0 _ hB7
        clear hbd5 hr5 HI hB6
        go_upto_region 11 with (go_at_call 98; (with_reducible refine (HF.out _ hB7).mono ?_); rintro r w7 ⟨rfl, hb7⟩)
        have hB8 := hB7.trans (hb7.mono hB7.size)
        have hbd7 := BldM_keep hbd6 hb7
        have hr7 := hr6.later hb7
        have d7 := c0 _ hB8
        clear hbd6 hr6 HF hB7 d6
        go_upto_region 12 with (first | (go_at_call 99; (with_reducible refine (HA.out _ hB8 i1 e1 q1).mono ?_); rintro r w8 ⟨rfl, hb8⟩) | (refine wpL_storeE rfl _ _ rfl rfl rfl (hr7.later hb8) ?_))
        have hB9 := hB8.trans (hb8.mono hB8.size)
        have hBa := below_row hB9 hg (ev e1)
        have hbd8 := BldM_row (BldM_keep hbd7 hb8) (hr7.later hb8) (by decide) (by decide) (ev e1)
        have hr8 := (hr7.later hb8).put (ev e1)
        have d8 := hr8.cell 3
        unfold ev at d8 hr8 hBa hbd8 ⊢
        simp only [List.getElem?_toArray, List.getElem?_cons_succ, List.getElem?_cons_zero] at d8
        clear hbd7 hr7 hB8 d7 hB9
        generalize w8.setRow g #[.int .i64 e1.ep, .int .i64 e1.rp, .int .i64 e1.no, .int .i32 e1.ch, .int .i64 e1.hd] = W9 at d8 hr8 hBa hbd8 ⊢
        have hlb := HLB.out
        have hil := (List.getElem?_eq_some_iff.1 q1).1
        have hv := vis_at (k := p + j) q1 (by omega) (by rw [q3]; omega)
        have hch := hc i1 e1 q1
        have hen := hid_of' (enc_next hv.1)
        have hnx := hid_of' hv.2
        have hle := encL_le (((vis l).drop p).take j)
        have hlt : (((vis l).drop p).take j).length ≤ j := by simp; omega
        have HR := hid_of' (writeRune_any w2.heap.size w2.heap.size _ e1.ch hch.1 hch.2 W9 hbd8 (by rw [Lib.byteCells_length]; omega) hBa.size)
        clear hv hch hle hlt
        go_wp2_with (go_at_call 30; refine HR.out.mono ?_; rintro r w9 ⟨⟨kk, rfl⟩, hb9, hw9⟩)
        clear HR
        go_roundw
        case rel =>
          refine ⟨i1 + 1, j + 1, by go_num, by go_num, by omega, fun _ => by rw [hnx.out]; omega, ?_, hBa.trans hw9⟩
          rw [hen.out, Lib.byteCells, List.map_append]
          rw [← Lib.byteCells_encodeRune] at hb9
          exact hb9
        case measure => simp [intOf]; omega
      · have HI : Hid (∀ x, Calls Tryz.prog 29 #[.agg (ev e0)] x fun r w' => r = .returned (.bool true) ∧ Below x.heap.size x w') := fun x => by
          have := HL.out e0 x
          rw [show decide (e0.hd ≤ 0) = true by simp; omega] at this
          exact this
        go_upto_region 12 with (first | (refine wpL_loadE rfl _ rfl rfl hr5.in ?_) | (go_at_call 29; refine (HI.out _).mono ?_; rintro r w6 ⟨rfl, hb6⟩))
        have hBa := hB6.trans (hb6.mono hB6.size)
        have hbd6 := BldM_keep hbd5 hb6
        have d6 := (hr5.later hb6).cell 3
        unfold ev at d6
        simp only [List.getElem?_toArray, List.getElem?_cons_succ, List.getElem?_cons_zero] at d6
        clear hbd5 hr5 HI hB6 hkl
        have hlb := HLB.out
        have hil := (List.getElem?_eq_some_iff.1 he0).1
        have hv := vis_at (k := p + j) he0 (by omega) (by rw [hi1]; omega)
        have hch := hc i e0 he0
        have hen := hid_of' (enc_next hv.1)
        have hnx := hid_of' hv.2
        have hle := encL_le (((vis l).drop p).take j)
        have hlt : (((vis l).drop p).take j).length ≤ j := by simp; omega
        have HR := hid_of' (writeRune_any w2.heap.size w2.heap.size _ e0.ch hch.1 hch.2 w6 hbd6 (by rw [Lib.byteCells_length]; omega) hBa.size)
        clear hv hch hle hlt
        go_wp2_with (go_at_call 30; refine HR.out.mono ?_; rintro r w9 ⟨⟨kk, rfl⟩, hb9, hw9⟩)
        clear HR
        go_roundw
        case rel =>
          refine ⟨i + 1, j + 1, by go_num, by go_num, by omega, fun _ => by rw [hnx.out]; omega, ?_, hBa.trans hw9⟩
          rw [hen.out, Lib.byteCells, List.map_append]
          rw [← Lib.byteCells_encodeRune] at hb9
          exact hb9
        case measure => simp [intOf]; omega
    · obtain rfl : j = n := by omega
      have e6 : ¬ ((p : Int) + (j : Int)) < wrap64 ((p : Int) + (j : Int)) := by rw [wrapIs (by omega) (by omega)]; omega
      have HS := hid_of' (Tryz.Builder_String_any w2.heap.size w2.heap.size (encL (((vis l).drop p).take j)) wr hbd hsz)
      go_wp2_with (go_at_call 31; refine HS.out.mono ?_; rintro r w9 ⟨rfl, hb9⟩)
      go_ret2
      exact ⟨rfl, bgo hB2 (hB.trans hb9)⟩
end Go.Proofs.YtdafkakigigdeaaGreatDoor
