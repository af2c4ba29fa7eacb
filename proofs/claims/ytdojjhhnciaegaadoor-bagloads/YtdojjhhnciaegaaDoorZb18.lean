
/-
  Package bag: Look, Deliver, Drop, Counts, Clear.
-/
import Derived.Test.YtdojjhhnciaegaaDoorZb17
namespace Go.Proofs.YtdojjhhnciaegaaDoor
open Go.RowKit Go.Extern.Stop Go.Stop Go.Extern
set_option maxRecDepth 100000

/-- No parcel. -/
def pl0 : Pl := ⟨0, 0, 0, []⟩
/-- 'Look' -/
def bLook : ByteArray := ⟨#[76, 111, 111, 107]⟩
/-- 'Deliver' -/
def bDeliver : ByteArray := ⟨#[68, 101, 108, 105, 118, 101, 114]⟩
/-- 'Drop' -/
def bDrop : ByteArray := ⟨#[68, 114, 111, 112]⟩
/-- 'Double' -/
def bDouble : ByteArray := ⟨#[68, 111, 117, 98, 108, 101]⟩
/-- 'Swap' -/
def bSwap : ByteArray := ⟨#[83, 119, 97, 112]⟩
/-- 'Send' -/
def bSend : ByteArray := ⟨#[83, 101, 110, 100]⟩
/-- 'Load' -/
def bLoad : ByteArray := ⟨#[76, 111, 97, 100]⟩
/-- The parcel at a place, if there is one. -/
def plAt (g : Bg) (i : Int) : Pl := if 0 ≤ i ∧ i < (g.l.length : Int) then (g.l[i.toNat]?).getD pl0 else pl0
/-- What is refused of a place. -/
def rfAt (c : ByteArray) (g : Bg) (i : Int) : Rf := if 0 ≤ i ∧ i < (g.l.length : Int) then none else some (c, i, 1)
theorem place_cases (g : Bg) (i : Int) : (∃ (n : Nat) (q : Pl), i = (n : Int) ∧ g.l[n]? = some q ∧ n < g.l.length) ∨ (i < 0 ∨ (g.l.length : Int) ≤ i) := by
  by_cases h : 0 ≤ i ∧ i < (g.l.length : Int)
  · obtain ⟨n, rfl⟩ := Int.eq_ofNat_of_zero_le h.1
    have hn : n < g.l.length := by omega
    exact .inl ⟨n, _, rfl, List.getElem?_eq_getElem hn, hn⟩
  · exact .inr (by omega)
theorem plAt_in {g : Bg} {n : Nat} {q : Pl} (h : g.l[n]? = some q) : plAt g (n : Int) = q := by
  have := (List.getElem?_eq_some_iff.1 h).1
  unfold plAt
  rw [if_pos ⟨by omega, by omega⟩, Int.toNat_natCast, h]
  rfl
theorem plAt_out {g : Bg} {i : Int} (h : i < 0 ∨ (g.l.length : Int) ≤ i) : plAt g i = pl0 := if_neg (by omega)
theorem rfAt_in {c : ByteArray} {g : Bg} {n : Nat} (h : n < g.l.length) : rfAt c g (n : Int) = none := if_pos ⟨by omega, by omega⟩
theorem rfAt_out {c : ByteArray} {g : Bg} {i : Int} (h : i < 0 ∨ (g.l.length : Int) ≤ i) : rfAt c g i = some (c, i, 1) := if_neg (by omega)
theorem pc0_is (K : Nat → Prop) (w : World) : PcIs K pc0 pl0 w := ⟨rfl, rfl, rfl, ⟨Rw.nil _ _ _, fun g h => by cases h⟩, by show 0 ≤ _; omega⟩

set_option maxHeartbeats 1000000 in
theorem look_ok {B : Nat} {v : Value} {g : Bg} {K : Nat → Prop} {w : World} (h : BgAt B v g K w) {ix : Nat} {q : Pl} (hq : g.l[ix]? = some q) :
    Calls Tryd.prog 36 #[.pointer (some ⟨B, 0, none⟩), .int .i64 (ix : Int)] w fun e w' => ∃ p, e = .returned (.tuple #[.agg (pcv p), .nilIface]) ∧ PcIs (fun k => w.heap.size ≤ k) p q w' ∧ Below w.heap.size w w' := by
  have hil := (List.getElem?_eq_some_iff.1 hq).1
  obtain ⟨g9, c9, p, rfl, hc1, hc2, hin, hpq, hth⟩ := h.row.at hq
  obtain ⟨N9, hN⟩ : ∃ N9, g.l.length = N9 := ⟨_, rfl⟩
  have hb1 := below_one w (.cells #[.int .i64 0, .int .i64 0, .int .i64 0, .slice none 0 0] 65)
  have r4 : RowAt w.heap.size (pcv pc0) 65 (w.alloc (.cells #[.int .i64 0, .int .i64 0, .int .i64 0, .slice none 0 0] 65)) := row_new w _ _
  have h2 := h.later hb1
  have HP := hid_of' (isPlace_yes h2 ix hil)
  have HO := hid_of' (own_any ((hpq.later hb1).b.sl) (by have := hpq.le; omega))
  have c1 := h2.lies.cellIs 1 rfl
  have HL := hid_of' (hin.later hb1)
  have H := hid_of' (And.intro hpq (And.intro r4 hb1))
  rw [hN] at c1 hil
  have hki : (ix : Int) < (N9 : Int) := by omega
  clear hin hth h h2 hpq hN hc1 hc2 hq hb1 r4
  go_enter Tryd.func36, Tryd.ntmps36
  go_wp2_with (first | (go_at_call 59; refine HP.out.mono ?_; rintro e w1 ⟨rfl, h0⟩; obtain rfl := h0.symm; clear HP) | (refine wpL_loadP (p := p) rfl _ rfl rfl HL.out ?_) | (go_at_call 60; refine HO.out.mono ?_; rintro e w2 ⟨gn, hgn, rfl, hcells, hb2⟩; clear HO; have HG := hid_of' (And.intro (H.out.2.1.later hb2) (And.intro hgn (And.intro hcells hb2))); clear hgn hcells hb2) | (refine wpL_storePr (p := ⟨p.s, p.f, p.t, .slice (some ⟨gn, 0, none⟩) q.bs.length q.bs.length⟩) (q := pc0) rfl _ _ rfl rfl rfl rfl HG.out.1 ?_))
  have hgn := HG.out.2.1
  rw [World.size_alloc] at hgn
  refine bodyPost_ret (v := .tuple #[.agg (pcv ⟨p.s, p.f, p.t, .slice (some ⟨gn, 0, none⟩) q.bs.length q.bs.length⟩), .nilIface]) (results_pe (fn := Tryd.f36) (p := 4) (q := 5) (g := w.heap.size) rfl rfl (HG.out.1.put _)) rfl ⟨_, rfl, ⟨H.out.1.s, H.out.1.f, H.out.1.t, ?_, H.out.1.le⟩, ?_⟩
  · exact bs_new (by rw [setRow_other _ _ _ _ (by omega)]; exact HG.out.2.2.1) (by have := H.out.1.le; omega) (by omega)
  · exact below_row (bgo H.out.2.2 HG.out.2.2.2) (Nat.le_refl _) _

set_option maxHeartbeats 1000000 in
theorem look_no {ad : Nat → Addr} {B : Nat} {v : Value} {g : Bg} {K : Nat → Prop} {w : World} (L : Lb ad w) (h : BgAt B v g K w) {i : Int} (hi : i < 0 ∨ (g.l.length : Int) ≤ i) :
    Calls Tryd.prog 36 #[.pointer (some ⟨B, 0, none⟩), .int .i64 i] w fun e w' => ∃ u, e = .returned (.tuple #[.agg (pcv pc0), u]) ∧ ErrR ad w.heap.size (some (bLook, i, 1)) u w' ∧ Below w.heap.size w w' := by
  have hb1 := below_one w (.cells #[.int .i64 0, .int .i64 0, .int .i64 0, .slice none 0 0] 65)
  have r4 : RowAt w.heap.size (pcv pc0) 65 (w.alloc (.cells #[.int .i64 0, .int .i64 0, .int .i64 0, .slice none 0 0] 65)) := row_new w _ _
  have HP := hid_of' (isPlace_no (h.later hb1) i hi)
  have HF := hid_of' (newF (ad := ad) bBag bLook i 1 (w.alloc (.cells #[.int .i64 0, .int .i64 0, .int .i64 0, .slice none 0 0] 65)))
  have LV : (w.alloc (.cells #[.int .i64 0, .int .i64 0, .int .i64 0, .slice none 0 0] 65)).cell? ⟨3, 0, none⟩ = some (.iface 155 (.pointer (some (ad 1)))) := (L.below hb1) 1 (by decide)
  have H := hid_of' (And.intro r4 hb1)
  clear h hi hb1 r4 L
  go_enter Tryd.func36, Tryd.ntmps36
  go_wp2_with (first | (go_at_call 59; refine HP.out.mono ?_; rintro e w1 ⟨rfl, h0⟩; obtain rfl := h0.symm; clear HP) | (go_at_call 15; refine HF.out.mono ?_; rintro r w2 ⟨rfl, hf, hb2⟩; clear HF; have HG := hid_of' (And.intro (H.out.1.later hb2) (And.intro hf hb2)); clear hf hb2) | (refine wpL_storePr (p := pc0) (q := pc0) rfl _ _ rfl rfl rfl rfl HG.out.1 ?_))
  have hf := HG.out.2.1
  rw [World.size_alloc] at hf
  refine bodyPost_ret (v := .tuple #[.agg (pcv pc0), .iface 90 (.pointer (some ⟨w.heap.size + 1, 0, none⟩))]) (results_pe (fn := Tryd.f36) (p := 4) (q := 5) (g := w.heap.size) rfl rfl (HG.out.1.put _)) rfl ⟨_, rfl, ⟨_, rfl, by omega, by decide, RowAt.other hf _ _ (by omega)⟩, ?_⟩
  exact below_row (bgo H.out.2 HG.out.2.2) (Nat.le_refl _) _
theorem look_any {ad : Nat → Addr} {B : Nat} {v : Value} {g : Bg} {K : Nat → Prop} {w : World} (L : Lb ad w) (h : BgAt B v g K w) (i : Int) :
    Calls Tryd.prog 36 #[.pointer (some ⟨B, 0, none⟩), .int .i64 i] w fun e w' => ∃ p u, e = .returned (.tuple #[.agg (pcv p), u]) ∧ PcIs (fun k => w.heap.size ≤ k) p (plAt g i) w' ∧ ErrR ad w.heap.size (rfAt bLook g i) u w' ∧ Below w.heap.size w w' := by
  rcases place_cases g i with ⟨n, q, rfl, hq, hn⟩ | hi
  · rw [plAt_in hq, rfAt_in hn]
    exact (look_ok h hq).mono fun _ _ ⟨p, h1, h2, h3⟩ => ⟨p, _, h1, h2, rfl, h3⟩
  · rw [plAt_out hi, rfAt_out hi]
    exact (look_no L h hi).mono fun _ _ ⟨u, h1, h2, h3⟩ => ⟨_, u, h1, pc0_is _ _, h2, h3⟩

/-- Behind Deliver. -/
def dlvG (g : Bg) (i : Int) : Bg := if 0 ≤ i ∧ i < (g.l.length : Int) then { g with arr := wrap64 (g.arr + 1), l := g.l.eraseIdx i.toNat } else g
/-- Behind Drop. -/
def drpG (g : Bg) (i : Int) : Bg := if 0 ≤ i ∧ i < (g.l.length : Int) then { g with drp := wrap64 (g.drp + 1), l := g.l.eraseIdx i.toNat } else g
theorem dlvG_in {g : Bg} {n : Nat} (h : n < g.l.length) : dlvG g (n : Int) = { g with arr := wrap64 (g.arr + 1), l := g.l.eraseIdx n } := by
  unfold dlvG
  rw [if_pos ⟨by omega, by omega⟩, Int.toNat_natCast]
theorem drpG_in {g : Bg} {n : Nat} (h : n < g.l.length) : drpG g (n : Int) = { g with drp := wrap64 (g.drp + 1), l := g.l.eraseIdx n } := by
  unfold drpG
  rw [if_pos ⟨by omega, by omega⟩, Int.toNat_natCast]
theorem dlvG_out {g : Bg} {i : Int} (h : i < 0 ∨ (g.l.length : Int) ≤ i) : dlvG g i = g := if_neg (by omega)
theorem drpG_out {g : Bg} {i : Int} (h : i < 0 ∨ (g.l.length : Int) ≤ i) : drpG g i = g := if_neg (by omega)
/-- What a call of a Bag may change. -/
def Bch (B : Nat) (v : Value) : Nat → Prop := fun k => k = B ∨ v.ownBlock = some k
theorem BgAt.set {B : Nat} {v : Value} {g : Bg} {K : Nat → Prop} {w : World} (h : BgAt B v g K w) (j : Nat) (x : Value) (g' : Bg) (hl : g'.l = g.l) (hm : g'.most = g.most)
    (hr : (#[.int .i64 g.most, v, .int .i64 g.last, .int .i64 g.sent, .int .i64 g.arr, .int .i64 g.drp, .int .i64 g.dbl] : Array Value).setIfInBounds j x = #[.int .i64 g'.most, v, .int .i64 g'.last, .int .i64 g'.sent, .int .i64 g'.arr, .int .i64 g'.drp, .int .i64 g'.dbl]) : BgAt B v g' K (w.setCell ⟨B, j, none⟩ x) := by
  have hc : Ch (fun k => k = B) w (w.setCell ⟨B, j, none⟩ x) := Ch.set (S := fun k => k = B) (Ch.refl _ w) (p := ⟨B, j, none⟩) (.inl rfl) x
  have hb := (h.bne.row.ch hc (fun k hk => h.ne k hk) (fun k hk => hk.2.2.1)).mono (K' := K) (fun k hk _ => hk.1)
  refine ⟨?_, by rw [hl]; exact hb, by rw [hm]; exact h.most0, by rw [hm]; exact h.most1, by rw [hm, hl]; exact h.room⟩
  have := h.lies.setc j x
  rwa [hr] at this
theorem ch_set (B : Nat) (v : Value) (w : World) (j : Nat) (x : Value) : Ch (Bch B v) w (w.setCell ⟨B, j, none⟩ x) := Ch.set (Ch.refl _ w) (p := ⟨B, j, none⟩) (.inl (.inl rfl)) x
set_option maxHeartbeats 1000000 in
theorem deliver_ok {B : Nat} {v : Value} {g : Bg} {K : Nat → Prop} {w : World} (h : BgAt B v g K w) {ix : Nat} {q : Pl} (hq : g.l[ix]? = some q) :
    Calls Tryd.prog 23 #[.pointer (some ⟨B, 0, none⟩), .int .i64 (ix : Int)] w fun e w' => ∃ p v', e = .returned (.tuple #[.agg (pcv p), .nilIface]) ∧ PcIs (fun k => w.heap.size ≤ k) p q w' ∧ BgAt B v' { g with arr := wrap64 (g.arr + 1), l := g.l.eraseIdx ix } K w' ∧ At' w v v' ∧ Ch (Bch B v) w w' := by
  have hil := (List.getElem?_eq_some_iff.1 hq).1
  have hb1 := below_one w (.cells #[.int .i64 0, .int .i64 0, .int .i64 0, .slice none 0 0] 65)
  have r4 : RowAt w.heap.size (pcv pc0) 65 (w.alloc (.cells #[.int .i64 0, .int .i64 0, .int .i64 0, .slice none 0 0] 65)) := row_new w _ _
  have hs1 : (w.alloc (.cells #[.int .i64 0, .int .i64 0, .int .i64 0, .slice none 0 0] 65)).heap.size = w.heap.size + 1 := World.size_alloc _ _
  go_enter Tryd.func23, Tryd.ntmps23
  go_upto_region 1 with fail
  generalize w.alloc (.cells #[.int .i64 0, .int .i64 0, .int .i64 0, .slice none 0 0] 65) = w1 at hb1 r4 hs1 ⊢
  have h2 := h.bne.later hb1
  have HP := hid_of' (isPlace_yes h2 ix hil)
  have c4 := h2.lies.cellIs 4 rfl
  have f4 := h2.lies.froz 4
  have hBs := h.lies.lt
  have h3 := h2.set 4 (.int .i64 (wrap64 (g.arr + 1))) { g with arr := wrap64 (g.arr + 1) } rfl rfl rfl
  have HT := hid_of' (takeOut_ok h3 (ix := ix) (q := q) hq)
  have hc3 := ch_set B v w1 4 (.int .i64 (wrap64 (g.arr + 1)))
  have r43 := r4.setn ⟨B, 4, none⟩ (.int .i64 (wrap64 (g.arr + 1))) (by show ¬ w.heap.size = B; omega)
  have hvl := h.row.lt
  have hsz : (w1.setCell ⟨B, 4, none⟩ (.int .i64 (wrap64 (g.arr + 1)))).heap.size = w.heap.size + 1 := by simpa [World.setCell] using hs1
  have H := hid_of' (And.intro r43 (And.intro ((Ch.of (S := Bch B v) hb1).trans hc3) (And.intro hvl hsz)))
  clear h h2 h3 hc3 hb1 r4 r43 hvl hs1 hsz
  go_upto_region 4 with (first | (go_at_call 59; refine HP.out.mono ?_; rintro e w1 ⟨rfl, h0⟩; obtain rfl := h0.symm; clear HP))
  clear c4 f4
  generalize w1.setCell ⟨B, 4, none⟩ (.int .i64 (wrap64 (g.arr + 1))) = w3 at H HT ⊢
  go_wp2_with (first | (go_at_call 61; refine HT.out.mono ?_; rintro e w4 ⟨p, v', rfl, hpq, hbg, hat, hch⟩; clear HT; have HO := hid_of' (own_any (hpq.b.sl) (by have := hpq.le; omega)); have r4 := RowAt.ch H.out.1 hch (fun e => e.elim (fun e => by omega) (fun e => by have := H.out.2.2.1 _ e; omega)); have HG := hid_of' (And.intro hpq (And.intro hbg (And.intro hat (And.intro hch r4)))); clear hpq hbg hat hch r4) | (go_at_call 60; refine HO.out.mono ?_; rintro e w5 ⟨gn, hgn, rfl, hcells, hb5⟩; clear HO; have HW := hid_of' (And.intro (HG.out.2.2.2.2.later hb5) (And.intro hgn (And.intro hcells hb5))); clear hgn hcells hb5) | (refine wpL_storePr (p := ⟨p.s, p.f, p.t, .slice (some ⟨gn, 0, none⟩) q.bs.length q.bs.length⟩) (q := pc0) rfl _ _ rfl rfl rfl rfl HW.out.1 ?_))
  have hgn := HW.out.2.1
  have hs4 := HG.out.2.2.2.1.size
  have hs3 := H.out.2.2.2
  have chz := ((H.out.2.1.trans HG.out.2.2.2.1).later HW.out.2.2.2).row (g := w.heap.size) (.inr (Nat.le_refl _)) (pcv ⟨p.s, p.f, p.t, .slice (some ⟨gn, 0, none⟩) q.bs.length q.bs.length⟩)
  have c5 : Ch (fun k => k = w.heap.size) w4 (w5.setRow w.heap.size (pcv ⟨p.s, p.f, p.t, .slice (some ⟨gn, 0, none⟩) q.bs.length q.bs.length⟩)) := Ch.row (S := fun k => k = w.heap.size) (Ch.of HW.out.2.2.2) (.inl rfl) _
  refine bodyPost_ret (v := .tuple #[.agg (pcv ⟨p.s, p.f, p.t, .slice (some ⟨gn, 0, none⟩) q.bs.length q.bs.length⟩), .nilIface]) (results_pe (fn := Tryd.f23) (p := 4) (q := 5) (g := w.heap.size) rfl rfl (HW.out.1.put _)) rfl ⟨_, v', rfl, ⟨HG.out.1.s, HG.out.1.f, HG.out.1.t, ?_, HG.out.1.le⟩, ?_, ?_, chz⟩
  · exact bs_new (by rw [setRow_other _ _ _ _ (by omega)]; exact HW.out.2.2.1) (by have := HG.out.1.le; omega) (by omega)
  · refine (HG.out.2.1.ch c5 (by omega) (fun k hk e => ?_) (fun k hk e => ?_)).mono (fun k hk _ => hk.1)
    · rcases HG.out.2.2.1 k hk with q | q
      · have := H.out.2.2.1 _ q; omega
      · omega
    · have := hk.2.1
      omega
  · exact fun k hk => (HG.out.2.2.1 k hk).elim (fun q => .inl q) (fun q => .inr (by omega))
set_option maxHeartbeats 1000000 in
theorem drop_ok {B : Nat} {v : Value} {g : Bg} {K : Nat → Prop} {w : World} (h : BgAt B v g K w) {ix : Nat} {q : Pl} (hq : g.l[ix]? = some q) :
    Calls Tryd.prog 30 #[.pointer (some ⟨B, 0, none⟩), .int .i64 (ix : Int)] w fun e w' => ∃ v', e = .returned .nilIface ∧ BgAt B v' { g with drp := wrap64 (g.drp + 1), l := g.l.eraseIdx ix } K w' ∧ At' w v v' ∧ Ch (Bch B v) w w' := by
  have hil := (List.getElem?_eq_some_iff.1 hq).1
  have HP := hid_of' (isPlace_yes h ix hil)
  have c4 := h.lies.cellIs 5 rfl
  have f4 := h.lies.froz 5
  have h3 := h.set 5 (.int .i64 (wrap64 (g.drp + 1))) { g with drp := wrap64 (g.drp + 1) } rfl rfl rfl
  have HT := hid_of' (takeOut_ok h3 (ix := ix) (q := q) hq)
  have hc3 := ch_set B v w 5 (.int .i64 (wrap64 (g.drp + 1)))
  have H := hid_of' hc3
  have hsz : (w.setCell ⟨B, 5, none⟩ (.int .i64 (wrap64 (g.drp + 1)))).heap.size = w.heap.size := by simp [World.setCell]
  clear h h3 hc3
  go_enter Tryd.func30, Tryd.ntmps30
  go_wp2_with (first | (go_at_call 59; refine HP.out.mono ?_; rintro e w1 ⟨rfl, h0⟩; obtain rfl := h0.symm; clear HP) | (go_at_call 61; refine HT.out.mono ?_; rintro e w4 ⟨p, v', rfl, hpq, hbg, hat, hch⟩; clear HT; have HG := hid_of' (And.intro hbg (And.intro hat hch)); clear hpq hbg hat hch))
  go_ret
  exact ⟨v', rfl, HG.out.1, fun k hk => (HG.out.2.1 k hk).elim (fun q => .inl q) (fun q => .inr (by omega)), H.out.trans HG.out.2.2⟩
set_option maxHeartbeats 1000000 in
theorem deliver_no {ad : Nat → Addr} {B : Nat} {v : Value} {g : Bg} {K : Nat → Prop} {w : World} (L : Lb ad w) (h : BgAt B v g K w) {i : Int} (hi : i < 0 ∨ (g.l.length : Int) ≤ i) :
    Calls Tryd.prog 23 #[.pointer (some ⟨B, 0, none⟩), .int .i64 i] w fun e w' => ∃ u, e = .returned (.tuple #[.agg (pcv pc0), u]) ∧ ErrR ad w.heap.size (some (bDeliver, i, 1)) u w' ∧ Below w.heap.size w w' := by
  have hb1 := below_one w (.cells #[.int .i64 0, .int .i64 0, .int .i64 0, .slice none 0 0] 65)
  have r4 : RowAt w.heap.size (pcv pc0) 65 (w.alloc (.cells #[.int .i64 0, .int .i64 0, .int .i64 0, .slice none 0 0] 65)) := row_new w _ _
  have HP := hid_of' (isPlace_no (h.later hb1) i hi)
  have HF := hid_of' (newF (ad := ad) bBag bDeliver i 1 (w.alloc (.cells #[.int .i64 0, .int .i64 0, .int .i64 0, .slice none 0 0] 65)))
  have LV : (w.alloc (.cells #[.int .i64 0, .int .i64 0, .int .i64 0, .slice none 0 0] 65)).cell? ⟨3, 0, none⟩ = some (.iface 155 (.pointer (some (ad 1)))) := (L.below hb1) 1 (by decide)
  have H := hid_of' (And.intro r4 hb1)
  clear h hi hb1 r4 L
  go_enter Tryd.func23, Tryd.ntmps23
  go_wp2_with (first | (go_at_call 59; refine HP.out.mono ?_; rintro e w1 ⟨rfl, h0⟩; obtain rfl := h0.symm; clear HP) | (go_at_call 15; refine HF.out.mono ?_; rintro r w2 ⟨rfl, hf, hb2⟩; clear HF; have HG := hid_of' (And.intro (H.out.1.later hb2) (And.intro hf hb2)); clear hf hb2) | (refine wpL_storePr (p := pc0) (q := pc0) rfl _ _ rfl rfl rfl rfl HG.out.1 ?_))
  have hf := HG.out.2.1
  rw [World.size_alloc] at hf
  refine bodyPost_ret (v := .tuple #[.agg (pcv pc0), .iface 90 (.pointer (some ⟨w.heap.size + 1, 0, none⟩))]) (results_pe (fn := Tryd.f23) (p := 4) (q := 5) (g := w.heap.size) rfl rfl (HG.out.1.put _)) rfl ⟨_, rfl, ⟨_, rfl, by omega, by decide, RowAt.other hf _ _ (by omega)⟩, ?_⟩
  exact below_row (bgo H.out.2 HG.out.2.2) (Nat.le_refl _) _
set_option maxHeartbeats 1000000 in
theorem drop_no {ad : Nat → Addr} {B : Nat} {v : Value} {g : Bg} {K : Nat → Prop} {w : World} (L : Lb ad w) (h : BgAt B v g K w) {i : Int} (hi : i < 0 ∨ (g.l.length : Int) ≤ i) :
    Calls Tryd.prog 30 #[.pointer (some ⟨B, 0, none⟩), .int .i64 i] w fun e w' => ∃ u, e = .returned u ∧ ErrR ad w.heap.size (some (bDrop, i, 1)) u w' ∧ Below w.heap.size w w' := by
  have HP := hid_of' (isPlace_no h i hi)
  have HF := hid_of' (newF (ad := ad) bBag bDrop i 1 w)
  have LV : w.cell? ⟨3, 0, none⟩ = some (.iface 155 (.pointer (some (ad 1)))) := L 1 (by decide)
  clear h hi L
  go_enter Tryd.func30, Tryd.ntmps30
  go_wp2_with (first | (go_at_call 59; refine HP.out.mono ?_; rintro e w1 ⟨rfl, h0⟩; obtain rfl := h0.symm; clear HP) | (go_at_call 15; refine HF.out.mono ?_; rintro r w2 ⟨rfl, hf, hb2⟩; clear HF))
  go_ret
  exact ⟨_, rfl, ⟨_, rfl, Nat.le_refl _, by decide, hf⟩, hb2⟩
theorem deliver_any {ad : Nat → Addr} {B : Nat} {v : Value} {g : Bg} {K : Nat → Prop} {w : World} (L : Lb ad w) (h : BgAt B v g K w) (i : Int) :
    Calls Tryd.prog 23 #[.pointer (some ⟨B, 0, none⟩), .int .i64 i] w fun e w' => ∃ p u v', e = .returned (.tuple #[.agg (pcv p), u]) ∧ PcIs (fun k => w.heap.size ≤ k) p (plAt g i) w' ∧ ErrR ad w.heap.size (rfAt bDeliver g i) u w' ∧ BgAt B v' (dlvG g i) K w' ∧ At' w v v' ∧ Ch (Bch B v) w w' := by
  rcases place_cases g i with ⟨n, q, rfl, hq, hn⟩ | hi
  · rw [plAt_in hq, rfAt_in hn, dlvG_in hn]
    exact (deliver_ok h hq).mono fun _ _ ⟨p, v', h1, h2, h3, h4, h5⟩ => ⟨p, _, v', h1, h2, rfl, h3, h4, h5⟩
  · rw [plAt_out hi, rfAt_out hi, dlvG_out hi]
    exact (deliver_no L h hi).mono fun _ _ ⟨u, h1, h2, h3⟩ => ⟨_, u, v, h1, pc0_is _ _, h2, h.later h3, At'.refl _ _, Ch.of h3⟩
theorem drop_any {ad : Nat → Addr} {B : Nat} {v : Value} {g : Bg} {K : Nat → Prop} {w : World} (L : Lb ad w) (h : BgAt B v g K w) (i : Int) :
    Calls Tryd.prog 30 #[.pointer (some ⟨B, 0, none⟩), .int .i64 i] w fun e w' => ∃ u v', e = .returned u ∧ ErrR ad w.heap.size (rfAt bDrop g i) u w' ∧ BgAt B v' (drpG g i) K w' ∧ At' w v v' ∧ Ch (Bch B v) w w' := by
  rcases place_cases g i with ⟨n, q, rfl, hq, hn⟩ | hi
  · rw [rfAt_in hn, drpG_in hn]
    exact (drop_ok h hq).mono fun _ _ ⟨v', h1, h3, h4, h5⟩ => ⟨_, v', h1, rfl, h3, h4, h5⟩
  · rw [rfAt_out hi, drpG_out hi]
    exact (drop_no L h hi).mono fun _ _ ⟨u, h1, h2, h3⟩ => ⟨u, v, h1, h2, h.later h3, At'.refl _ _, Ch.of h3⟩
end Go.Proofs.YtdojjhhnciaegaaDoor
