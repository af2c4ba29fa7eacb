
/-
  Bytes as text; barrowlaw10.wakes; BagNames. Package bag: Swap's refusals.
-/
import Derived.Test.YtdojjhhnciaegaaDoorZb21
import Derived.Laws.BytesString
import Derived.Laws.IdiomStrings
import Derived.Lib.SlBytesConst
namespace Go.Proofs.YtdojjhhnciaegaaDoor
open Go.RowKit Go.Extern.Stop Go.Stop Go.Extern
set_option maxRecDepth 100000

theorem conv_sl {w : World} {a : Option Addr} {c pl : Nat} {bs : List UInt8} (h : SlB w (.slice a bs.length c) bs) (hp : pl ≤ bs.length) : (convert 41 9 (.slice a pl c)).run Tryd.prog w = .ok (.string ⟨(bs.take pl).toArray⟩) w := by
  rcases h with ⟨rfl, _⟩ | ⟨g, o, c', he, hg, hc⟩
  · obtain rfl : pl = 0 := by simpa using hp
    rw [run_convert_bytes_string w 41 9 5 a 0 c Tryd.underlying41 Tryd.underlying5 Tryd.underlying9]
    cases a <;> rfl
  · simp only [Value.slice.injEq, true_and] at he
    obtain ⟨rfl, rfl⟩ := he
    have hl : (bs.take pl).length = pl := by simp; omega
    have := run_convert_bytes_back (P := Tryd.prog) w 41 9 5 ⟨g, o, none⟩ c (bs.take pl) Tryd.underlying41 Tryd.underlying5 Tryd.underlying9 (fun j hj => by
      rw [Addr.add_lit]
      refine hc j _ ?_
      rw [List.getElem_take]
      exact List.getElem?_eq_getElem _)
    rw [hl] at this
    exact this
theorem SlB.form {w : World} {v : Value} {bs : List UInt8} (h : SlB w v bs) : ∃ a c, v = .slice a bs.length c := by
  rcases h with ⟨rfl, a, c, rfl⟩ | ⟨g, o, c, rfl, _⟩
  · exact ⟨a, c, rfl⟩
  · exact ⟨_, c, rfl⟩
theorem conv_all {w : World} {a : Option Addr} {c : Nat} {bs : List UInt8} (h : SlB w (.slice a bs.length c) bs) : (convert 41 9 (.slice a bs.length c)).run Tryd.prog w = .ok (.string ⟨bs.toArray⟩) w := by
  have := conv_sl h (Nat.le_refl _)
  rwa [List.take_length] at this
theorem SlB.later {w w' : World} {v : Value} {bs : List UInt8} (h : SlB w v bs) (hb : Below w.heap.size w w') : SlB w' v bs := h.grow hb
set_option maxHeartbeats 4000000 in
theorem wakes10_ok (w : World) : Calls Tryd.prog 8 #[] w fun e w' => e = .returned (.bool true) ∧ Below w.heap.size w w' := by
  have HN := hid_of' (new_ok 2 (by decide) (by decide) w)
  go_enter Tryd.func8, Tryd.ntmps8
  go_upto_region 4 with (go_at_call 5; refine HN.out.mono ?_; rintro e w1 ⟨rfl, hg1, hb1⟩; clear HN)
  have r1 : SlB (w1.alloc (.cells #[.int .u8 120] 5 (1, 2))) (.slice (some ⟨w1.heap.size, 0, none⟩) 1 1) [120] := .inr ⟨w1.heap.size, 0, 1, rfl, by simp, fun i b hi => by
    match i, hi with
    | 0, hi => cases hi; rw [cell_of_row _ w1.heap.size 0 #[.int .u8 120] 5 (1, 2) (heap_alloc_last w1 _)]; rfl
    | i + 1, hi => simp at hi⟩
  have hB1 := hg1.lies.lt
  have hs := send_ok (hg1.later (below_one w1 (.cells #[.int .u8 120] 5 (1, 2)))) 1 0 (by decide) (by decide) r1 (by decide) (fun k hk e => by
    cases hk
    rcases e with e | e
    · have e' : w1.heap.size = w.heap.size := e
      omega
    · cases e)
  rw [show wrap64 ((bg0 2).last + 1) = 1 from by kernel_rfl] at hs
  have HS := hid_of' hs
  have H1 := hid_of' hb1
  have hc41 := fun (w : World) (C : Array Value) (n c : Nat) => Lib.run_convert_bytes_const (P := Tryd.prog) w 41 5 C n c Tryd.underlying41 Tryd.underlying5
  clear hs hg1 hb1 r1
  go_upto_region 5 with (go_at_call 22; refine HS.out.mono ?_; rintro e w2 ⟨v2, rfl, hg2, ha2, hc2⟩; clear HS)
  have hd := deliver_ok hg2 (ix := 0) (q := ⟨1, 1, 0, [120]⟩) (by kernel_rfl)
  rw [show ((0 : Nat) : Int) = 0 from rfl] at hd
  have HD := hid_of' hd
  have H2 := hid_of' (And.intro hg2 (And.intro hc2 (And.intro hc2.size ha2)))
  clear hd hg2 ha2 hc2
  go_upto_region 6 with (first | (go_at_call 23; refine HD.out.mono ?_; rintro e w3 ⟨p, v3, rfl, hp3, hg3, ha3, hc3⟩; clear HD; have HP := hid_of' (And.intro hp3 (And.intro hg3 (And.intro ha3 hc3))); clear hp3 hg3 ha3 hc3) | (refine wpL_stNewP (p := p) rfl _ _ rfl rfl rfl rfl rfl rfl HP.out.1.b.sl.one ?_; go_simp))
  obtain ⟨hp3, hg3, ha3, hc3⟩ := HP.out
  clear HP hc41
  obtain ⟨s, f, t, pb⟩ := p
  obtain ⟨h1, h2, h3, h4, _⟩ := hp3
  have h1' : s = 1 := h1
  have h2' : f = 1 := h2
  have h3' : t = 0 := h3
  subst h1' h2' h3'
  have sl := h4.sl
  obtain ⟨xa, xc, hpb⟩ := sl.form
  have hpb' : pb = .slice xa 1 xc := hpb
  subst hpb'
  have hr := row_new w3 (pcv ⟨1, 1, 0, .slice xa 1 xc⟩) 65
  have hb3 := below_one w3 (.cells (pcv ⟨1, 1, 0, .slice xa 1 xc⟩) 65)
  have sl4 : SlB (w3.alloc (.cells (pcv ⟨1, 1, 0, .slice xa 1 xc⟩) 65)) (.slice xa 1 xc) [120] := sl.later hb3
  have hg4 := hg3.later hb3
  have hBw : Below w.heap.size w (w3.alloc (.cells (pcv ⟨1, 1, 0, .slice xa 1 xc⟩) 65)) := by
    have c2 := H2.out.2.1
    have c12 : Below w.heap.size w w2 := H1.out.trans ((Below.trans ((below_one w1 (.cells #[.int .u8 120] 5 (1, 2))).mono H1.out.size) (c2.below (n := w.heap.size) (fun s hs e => Or.elim e (fun e => by omega) (fun e => by cases e)) (by have := H1.out.size; simp; omega))))
    have c23 : Below w.heap.size w2 w3 := hc3.below (fun s hs e => by
      rcases e with e | e
      · omega
      · rcases H2.out.2.2.2 s e with q | q
        · cases q
        · have := H1.out.size; simp at q; omega) c12.size
    exact (c12.trans c23).trans (hb3.mono (Nat.le_trans c12.size c23.size))
  generalize w3.alloc (.cells (pcv ⟨1, 1, 0, .slice xa 1 xc⟩) 65) = w4 at hr sl4 hg4 hBw ⊢
  have x0 : ∀ s : Wld w4, (wOf s).cell? ⟨w3.heap.size, 0, none⟩ = some (.int .i64 1) := hr.cls 0 _ rfl
  have x1 : ∀ s : Wld w4, (wOf s).cell? ⟨w3.heap.size, 1, none⟩ = some (.int .i64 1) := hr.cls 1 _ rfl
  have x2 : ∀ s : Wld w4, (wOf s).cell? ⟨w3.heap.size, 2, none⟩ = some (.int .i64 0) := hr.cls 2 _ rfl
  have x3 : ∀ s : Wld w4, (wOf s).cell? ⟨w3.heap.size, 3, none⟩ = some (.slice xa 1 xc) := hr.cls 3 _ rfl
  have hcv : ∀ s : Wld w4, (convert 41 9 (.slice xa 1 xc)).run Tryd.prog (wOf s) = .ok (.string ⟨#[120]⟩) (wOf s) := fun s => conv_all (bs := [120]) (sl4.later (wOf_below s))
  have hB := hBw
  have hlen : ∀ s : Wld w4, Calls Tryd.prog 10 #[.pointer (some ⟨w.heap.size, 0, none⟩)] (wOf s) fun e w' => e = .returned (.int .i64 0) ∧ w' = wOf s := fun s => len_is (hg4.later (wOf_below s))
  have HL := hid_of' hlen
  clear hlen
  clear hr sl4 sl h4 hg3 ha3 hc3 H1 H2 hb3 hpb hg4
  refine wp_region_cls0 ?_
  repeat (first | go_big_quiet_skip | (go_big_quiet_want; first | (go_big_quiet_op; first | go_big_quiet_on | go_big_quiet_call ((go_at_call 10; exact cls_of_same (HL.out _))))))
  refine wpQuiet_nil ?_
  rintro w1 ⟨s1, e1⟩
  have hb1 := wOf_below s1
  rw [← e1] at hb1
  clear e1 s1
  replace hB := bgo hB hb1
  clear hb1
  go_wp2
  go_ret
  exact ⟨rfl, hB⟩
end Go.Proofs.YtdojjhhnciaegaaDoor
namespace Go.Proofs.YtdojjhhnciaegaaDoor
open Go.RowKit Go.Extern.Stop Go.Stop Go.Extern
set_option maxRecDepth 100000

set_option maxHeartbeats 2000000 in
theorem swap_no1 {ad : Nat → Addr} {B : Nat} {v : Value} {g : Bg} {K : Nat → Prop} {w : World} (L : Lb ad w) (h : BgAt B v g K w) {i : Int} (j : Int) (hi : i < 0 ∨ (g.l.length : Int) ≤ i) :
    Calls Tryd.prog 34 #[.pointer (some ⟨B, 0, none⟩), .int .i64 i, .int .i64 j] w fun e w' => ∃ u, e = .returned u ∧ ErrR ad w.heap.size (some (bSwap, i, 1)) u w' ∧ Below w.heap.size w w' := by
  have HP := hid_of' (isPlace_no h i hi)
  have HF := hid_of' (newF (ad := ad) bBag bSwap i 1 w)
  have LV : w.cell? ⟨3, 0, none⟩ = some (.iface 155 (.pointer (some (ad 1)))) := L 1 (by decide)
  clear h hi L
  go_enter Tryd.func34, Tryd.ntmps34
  go_wp2
  go_loopw [12] (fun kv wr => kv = .int .i64 0 ∧ wr = w) (fun _ _ => 0)
  case atStart => exact ⟨rfl, rfl⟩
  case round =>
    obtain ⟨rfl, h0⟩ := hrel
    obtain rfl := h0.symm
    go_wp2_with (first | (refine wpL_idx0 rfl _ _ rfl rfl rfl ?_) | (go_at_call 59; refine HP.out.mono ?_; rintro e w1 ⟨rfl, h0⟩; obtain rfl := h0.symm) | (go_at_call 15; refine HF.out.mono ?_; rintro r w2 ⟨rfl, hf, hb2⟩))
    go_ret
    exact ⟨_, rfl, ⟨_, rfl, Nat.le_refl _, by decide, hf⟩, hb2⟩
set_option maxHeartbeats 2000000 in
theorem swap_no2 {ad : Nat → Addr} {B : Nat} {v : Value} {g : Bg} {K : Nat → Prop} {w : World} (L : Lb ad w) (h : BgAt B v g K w) {ix : Nat} {j : Int} (hi : ix < g.l.length) (hj : j < 0 ∨ (g.l.length : Int) ≤ j) :
    Calls Tryd.prog 34 #[.pointer (some ⟨B, 0, none⟩), .int .i64 (ix : Int), .int .i64 j] w fun e w' => ∃ u, e = .returned u ∧ ErrR ad w.heap.size (some (bSwap, j, 1)) u w' ∧ Below w.heap.size w w' := by
  have HP := hid_of' (And.intro (isPlace_yes h ix hi) (isPlace_no h j hj))
  have HF := hid_of' (newF (ad := ad) bBag bSwap j 1 w)
  have LV : w.cell? ⟨3, 0, none⟩ = some (.iface 155 (.pointer (some (ad 1)))) := L 1 (by decide)
  clear h hi hj L
  go_enter Tryd.func34, Tryd.ntmps34
  go_wp2
  go_loopw [12] (fun kv wr => ∃ k : Nat, kv = .int .i64 (k : Int) ∧ k ≤ 1 ∧ wr = w) (fun kv _ => 2 - (intOf kv).toNat)
  case atStart => exact ⟨0, rfl, by decide, rfl⟩
  case round =>
    obtain ⟨k, rfl, hk, h0⟩ := hrel
    obtain rfl := h0.symm
    match k, hk with
    | 0, _ =>
      go_wp2_with (first | (refine wpL_idx0 rfl _ _ rfl rfl rfl ?_) | (go_at_call 59; (with_reducible refine HP.out.1.mono ?_); rintro e w1 ⟨rfl, h0⟩; obtain rfl := h0.symm))
      go_roundw
      case rel => exact ⟨1, rfl, by decide, trivial⟩
      case measure => simp [intOf]
    | 1, _ =>
      go_wp2_with (first | (refine wpL_idx1 rfl _ _ rfl rfl rfl ?_) | (go_at_call 59; (with_reducible refine HP.out.2.mono ?_); rintro e w1 ⟨rfl, h0⟩; obtain rfl := h0.symm) | (go_at_call 15; refine HF.out.mono ?_; rintro r w2 ⟨rfl, hf, hb2⟩))
      go_ret
      exact ⟨_, rfl, ⟨_, rfl, Nat.le_refl _, by decide, hf⟩, hb2⟩
/-- What Swap answers, and the Bag behind it. -/
def swpA (g : Bg) (i j : Int) : Bg × Rf := if 0 ≤ i ∧ i < (g.l.length : Int) then (if 0 ≤ j ∧ j < (g.l.length : Int) then ({ g with l := swpL g.l i.toNat j.toNat (plAt g i) (plAt g j) }, none) else (g, some (bSwap, j, 1))) else (g, some (bSwap, i, 1))
theorem swap_any {ad : Nat → Addr} {B : Nat} {v : Value} {g : Bg} {K : Nat → Prop} {w : World} (L : Lb ad w) (h : BgAt B v g K w) (i j : Int) :
    Calls Tryd.prog 34 #[.pointer (some ⟨B, 0, none⟩), .int .i64 i, .int .i64 j] w fun e w' => ∃ u, e = .returned u ∧ ErrR ad w.heap.size (swpA g i j).2 u w' ∧ BgAt B v (swpA g i j).1 K w' ∧ Ch (Bch B v) w w' := by
  unfold swpA
  rcases place_cases g i with ⟨n, q, rfl, hq, hn⟩ | hi
  · rw [if_pos ⟨by omega, by omega⟩, plAt_in hq]
    rcases place_cases g j with ⟨m, r, rfl, hr, hm⟩ | hj
    · rw [if_pos ⟨by omega, by omega⟩, plAt_in hr, Int.toNat_natCast, Int.toNat_natCast]
      exact (swap_ok h hq hr).mono fun _ _ ⟨h1, h2, h3⟩ => ⟨_, h1, rfl, h2, h3⟩
    · rw [if_neg (by omega)]
      exact (swap_no2 L h hn hj).mono fun _ _ ⟨u, h1, h2, h3⟩ => ⟨u, h1, h2, h.later h3, Ch.of h3⟩
  · rw [if_neg (by omega)]
    exact (swap_no1 L h j hi).mono fun _ _ ⟨u, h1, h2, h3⟩ => ⟨u, h1, h2, h.later h3, Ch.of h3⟩
end Go.Proofs.YtdojjhhnciaegaaDoor
