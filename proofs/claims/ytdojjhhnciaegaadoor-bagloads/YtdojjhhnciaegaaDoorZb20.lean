
/-
  Package bag: Send's refusals, Double, Counts, Clear.
-/
import Derived.Test.YtdojjhhnciaegaaDoorZb19
namespace Go.Proofs.YtdojjhhnciaegaaDoor
open Go.RowKit Go.Extern.Stop Go.Stop Go.Extern
set_option maxRecDepth 100000

set_option maxHeartbeats 1000000 in
theorem send_ends {ad : Nat → Addr} {B : Nat} {w : World} (L : Lb ad w) (f t : Int) (hft : endsB f t = false) (ru : Value) :
    Calls Tryd.prog 22 #[.pointer (some ⟨B, 0, none⟩), .int .i64 f, .int .i64 t, ru] w fun e w' => ∃ u, e = .returned (.tuple #[.int .i64 0, u]) ∧ ErrR ad w.heap.size (some (bSend, t, 0)) u w' ∧ Below w.heap.size w w' := by
  have hE := areEnds_is f t w
  rw [hft] at hE
  have HE := hid_of' hE
  have HF := hid_of' (newF (ad := ad) bBag bSend t 0 w)
  have LV : w.cell? ⟨0, 0, none⟩ = some (.iface 155 (.pointer (some (ad 0)))) := L 0 (by decide)
  clear hE hft L
  go_enter Tryd.func22, Tryd.ntmps22
  go_wp2_with (first | (go_at_call 56; refine HE.out.mono ?_; rintro e w1 ⟨rfl, h0⟩; obtain rfl := h0.symm; clear HE) | (go_at_call 15; refine HF.out.mono ?_; rintro r w2 ⟨rfl, hf, hb2⟩; clear HF))
  go_ret2
  exact ⟨_, rfl, ⟨_, rfl, Nat.le_refl _, by decide, hf⟩, hb2⟩
set_option maxHeartbeats 1000000 in
theorem send_full {ad : Nat → Addr} {B : Nat} {v : Value} {g : Bg} {K : Nat → Prop} {w : World} (L : Lb ad w) (hN : 2 < B) (h : BgAt B v g K w) (f t : Int) (hft : endsB f t = true) (hroom : g.most ≤ (g.l.length : Int)) (ru : Value) :
    Calls Tryd.prog 22 #[.pointer (some ⟨B, 0, none⟩), .int .i64 f, .int .i64 t, ru] w fun e w' => ∃ u, e = .returned (.tuple #[.int .i64 0, u]) ∧ ErrR ad w.heap.size (some (bSend, t, 12)) u w' ∧ BgAt B v { g with sent := wrap64 (g.sent + 1), drp := wrap64 (g.drp + 1) } K w' ∧ Ch (Bch B v) w w' := by
  have hE := areEnds_is f t w
  rw [hft] at hE
  have HE := hid_of' hE
  have c3 := h.lies.cellIs 3 rfl
  have f3 := h.lies.froz 3
  have h3 := h.set 3 (.int .i64 (wrap64 (g.sent + 1))) { g with sent := wrap64 (g.sent + 1) } rfl rfl rfl
  have hc3 := ch_set B v w 3 (.int .i64 (wrap64 (g.sent + 1)))
  have hF := isFull_is h3
  rw [decide_eq_true hroom] at hF
  have HF := hid_of' hF
  have LV : w.cell? ⟨2, 0, none⟩ = some (.iface 155 (.pointer (some (ad 12)))) := L 12 (by decide)
  have L3 : (w.setCell ⟨B, 3, none⟩ (.int .i64 (wrap64 (g.sent + 1)))).cell? ⟨2, 0, none⟩ = some (.iface 155 (.pointer (some (ad 12)))) := by
    rw [World.cell?_of_block (w := w) (a := ⟨2, 0, none⟩) (Below.heap_setCell _ _ _ _ (by show ¬ 2 = B; omega))]; exact LV
  have hsz : (w.setCell ⟨B, 3, none⟩ (.int .i64 (wrap64 (g.sent + 1)))).heap.size = w.heap.size := by simp [World.setCell]
  have H := hid_of' (And.intro h3 (And.intro hc3 (And.intro L3 hsz)))
  clear hE hft hF h h3 hc3 L LV L3 hsz
  go_enter Tryd.func22, Tryd.ntmps22
  go_upto_region 4 with (go_at_call 56; refine HE.out.mono ?_; rintro e w1 ⟨rfl, h0⟩; obtain rfl := h0.symm; clear HE)
  clear c3 f3
  generalize w.setCell ⟨B, 3, none⟩ (.int .i64 (wrap64 (g.sent + 1))) = wa at H HF ⊢
  go_upto_region 5 with (go_at_call 57; refine HF.out.mono ?_; rintro e wb ⟨rfl, hbb⟩; clear HF)
  have h4 := H.out.1.later hbb
  have c5 := h4.lies.cellIs 5 rfl
  have f5 := h4.lies.froz 5
  have h5 := h4.set 5 (.int .i64 (wrap64 (g.drp + 1))) { g with sent := wrap64 (g.sent + 1), drp := wrap64 (g.drp + 1) } rfl rfl rfl
  have hc5 := (H.out.2.1.later hbb).trans (ch_set B v wb 5 (.int .i64 (wrap64 (g.drp + 1))))
  have LW : (wb.setCell ⟨B, 5, none⟩ (.int .i64 (wrap64 (g.drp + 1)))).cell? ⟨2, 0, none⟩ = some (.iface 155 (.pointer (some (ad 12)))) := by
    rw [World.cell?_of_block (w := wb) (a := ⟨2, 0, none⟩) (Below.heap_setCell _ _ _ _ (by show ¬ 2 = B; omega)), hbb.cell (World.block_lt_of_cell? _ _ H.out.2.2.1)]
    exact H.out.2.2.1
  have hs5 : w.heap.size ≤ (wb.setCell ⟨B, 5, none⟩ (.int .i64 (wrap64 (g.drp + 1)))).heap.size := hc5.size
  have H5 := hid_of' (And.intro h5 (And.intro hc5 hs5))
  clear h4 h5 hc5 hbb hs5
  go_upto_region 6 with fail
  clear c5 f5
  generalize wb.setCell ⟨B, 5, none⟩ (.int .i64 (wrap64 (g.drp + 1))) = wc at H5 LW ⊢
  have HN := hid_of' (newF (ad := ad) bBag bSend t 12 wc)
  go_wp2_with (go_at_call 15; refine HN.out.mono ?_; rintro r w2 ⟨rfl, hf, hb2⟩; clear HN)
  go_ret2
  exact ⟨_, rfl, ⟨_, rfl, H5.out.2.2, by decide, hf⟩, H5.out.1.later hb2, H5.out.2.1.later hb2⟩
/-- What Send answers, and the Bag behind it. -/
def sndA (g : Bg) (f t : Int) (raw : List UInt8) : Bg × Int × Rf := if endsB f t then (if g.most ≤ (g.l.length : Int) then ({ g with sent := wrap64 (g.sent + 1), drp := wrap64 (g.drp + 1) }, 0, some (bSend, t, 12)) else (sndG g f t raw, wrap64 (g.last + 1), none)) else (g, 0, some (bSend, t, 0))
theorem send_any {ad : Nat → Addr} {B : Nat} {v : Value} {g : Bg} {K : Nat → Prop} {w : World} (L : Lb ad w) (hN : 2 < B) (h : BgAt B v g K w) (f t : Int) {ru : Value} {raw : List UInt8} (hraw : SlB w ru raw) (hrl : raw.length ≤ 140737488351232) (hrb : ∀ k, ru.ownBlock = some k → ¬ Bch B v k) :
    Calls Tryd.prog 22 #[.pointer (some ⟨B, 0, none⟩), .int .i64 f, .int .i64 t, ru] w fun e w' => ∃ u v', e = .returned (.tuple #[.int .i64 (sndA g f t raw).2.1, u]) ∧ ErrR ad w.heap.size (sndA g f t raw).2.2 u w' ∧ BgAt B v' (sndA g f t raw).1 (fun k => K k ∨ w.heap.size ≤ k) w' ∧ At' w v v' ∧ Ch (Bch B v) w w' := by
  unfold sndA
  cases hft : endsB f t
  · rw [if_neg (by decide)]
    exact (send_ends L f t hft ru).mono fun _ _ ⟨u, h1, h2, h3⟩ => ⟨u, v, h1, h2, (h.later h3).mono (fun k hk _ => .inl hk), At'.refl _ _, Ch.of h3⟩
  · rw [if_pos rfl]
    by_cases hr : g.most ≤ (g.l.length : Int)
    · rw [if_pos hr]
      exact (send_full L hN h f t hft hr ru).mono fun _ _ ⟨u, h1, h2, h3, h4⟩ => ⟨u, v, h1, h2, h3.mono (fun k hk _ => .inl hk), At'.refl _ _, h4⟩
    · rw [if_neg hr]
      exact (send_ok h f t hft (by omega) hraw hrl hrb).mono fun _ _ ⟨v', h1, h2, h3, h4⟩ => ⟨_, v', h1, rfl, h2, h3, h4⟩

set_option maxHeartbeats 1000000 in
theorem double_place {ad : Nat → Addr} {B : Nat} {v : Value} {g : Bg} {K : Nat → Prop} {w : World} (L : Lb ad w) (h : BgAt B v g K w) {i : Int} (hi : i < 0 ∨ (g.l.length : Int) ≤ i) :
    Calls Tryd.prog 32 #[.pointer (some ⟨B, 0, none⟩), .int .i64 i] w fun e w' => ∃ u, e = .returned u ∧ ErrR ad w.heap.size (some (bDouble, i, 1)) u w' ∧ Below w.heap.size w w' := by
  have HP := hid_of' (isPlace_no h i hi)
  have HF := hid_of' (newF (ad := ad) bBag bDouble i 1 w)
  have LV : w.cell? ⟨3, 0, none⟩ = some (.iface 155 (.pointer (some (ad 1)))) := L 1 (by decide)
  clear h hi L
  go_enter Tryd.func32, Tryd.ntmps32
  go_wp2_with (first | (go_at_call 59; refine HP.out.mono ?_; rintro e w1 ⟨rfl, h0⟩; obtain rfl := h0.symm; clear HP) | (go_at_call 15; refine HF.out.mono ?_; rintro r w2 ⟨rfl, hf, hb2⟩; clear HF))
  go_ret
  exact ⟨_, rfl, ⟨_, rfl, Nat.le_refl _, by decide, hf⟩, hb2⟩
set_option maxHeartbeats 1000000 in
theorem double_full {ad : Nat → Addr} {B : Nat} {v : Value} {g : Bg} {K : Nat → Prop} {w : World} (L : Lb ad w) (h : BgAt B v g K w) {ix : Nat} (hi : ix < g.l.length) (hroom : g.most ≤ (g.l.length : Int)) :
    Calls Tryd.prog 32 #[.pointer (some ⟨B, 0, none⟩), .int .i64 (ix : Int)] w fun e w' => ∃ u, e = .returned u ∧ ErrR ad w.heap.size (some (bDouble, (ix : Int), 12)) u w' ∧ Below w.heap.size w w' := by
  have HP := hid_of' (isPlace_yes h ix hi)
  have hF := isFull_is h
  rw [decide_eq_true hroom] at hF
  have HF := hid_of' hF
  have HL := hid_of' L
  clear h hi L hF
  go_enter Tryd.func32, Tryd.ntmps32
  go_upto_region 4 with (first | (go_at_call 59; refine HP.out.mono ?_; rintro e w1 ⟨rfl, h0⟩; obtain rfl := h0.symm; clear HP) | (go_at_call 57; refine HF.out.mono ?_; rintro e wb ⟨rfl, hbb⟩; clear HF))
  have LV : wb.cell? ⟨2, 0, none⟩ = some (.iface 155 (.pointer (some (ad 12)))) := (HL.out.below hbb) 12 (by decide)
  have HN := hid_of' (newF (ad := ad) bBag bDouble (ix : Int) 12 wb)
  have HB := hid_of' hbb
  clear hbb
  go_wp2_with (go_at_call 15; refine HN.out.mono ?_; rintro r w2 ⟨rfl, hf, hb2⟩; clear HN)
  go_ret
  exact ⟨_, rfl, ⟨_, rfl, HB.out.size, by decide, hf⟩, bgo HB.out hb2⟩
set_option maxHeartbeats 4000000 in
theorem double_ok {B : Nat} {v : Value} {g : Bg} {K : Nat → Prop} {w : World} (h : BgAt B v g K w) {ix : Nat} {q : Pl} (hq : g.l[ix]? = some q) (hroom : (g.l.length : Int) < g.most) :
    Calls Tryd.prog 32 #[.pointer (some ⟨B, 0, none⟩), .int .i64 (ix : Int)] w fun e w' => ∃ v', e = .returned .nilIface ∧ BgAt B v' { g with dbl := wrap64 (g.dbl + 1), l := g.l ++ [q] } K w' ∧ At' w v v' ∧ Ch (Bch B v) w w' := by
  obtain ⟨i0, hi0, hz0, hz1, hz2⟩ := info_parts info_p
  have HI := hid_of' (And.intro hi0 (And.intro hz0 (And.intro hz1 hz2)))
  clear hi0 hz0 hz1 hz2
  have hil := (List.getElem?_eq_some_iff.1 hq).1
  have HP := hid_of' (isPlace_yes h ix hil)
  have hF := isFull_is h
  rw [decide_eq_false (show ¬ g.most ≤ (g.l.length : Int) by omega)] at hF
  have HF := hid_of' hF
  have H := hid_of' h
  have HQ := hid_of' hq
  clear hF h hq
  go_enter Tryd.func32, Tryd.ntmps32
  go_upto_region 5 with (first | (go_at_call 59; refine HP.out.mono ?_; rintro e w1 ⟨rfl, h0⟩; obtain rfl := h0.symm; clear HP) | (go_at_call 57; refine HF.out.mono ?_; rintro e wb ⟨rfl, hbb⟩; clear HF))
  have h4 := H.out.later hbb
  have c6 := h4.lies.cellIs 6 rfl
  have f6 := h4.lies.froz 6
  have h5 := h4.set 6 (.int .i64 (wrap64 (g.dbl + 1))) { g with dbl := wrap64 (g.dbl + 1) } rfl rfl rfl
  have hc5 := (Ch.of (S := Bch B v) hbb).trans (ch_set B v wb 6 (.int .i64 (wrap64 (g.dbl + 1))))
  have H5 := hid_of' (And.intro h5 hc5)
  clear h4 h5 hc5 hbb
  go_upto_region 6 with fail
  clear c6 f6
  generalize wb.setCell ⟨B, 6, none⟩ (.int .i64 (wrap64 (g.dbl + 1))) = wc at H5 ⊢
  have hb := H5.out.1.bne
  obtain ⟨g9, c9, p9, hv9, _, _, _, _, _⟩ := hb.row.at HQ.out
  have hv9' : v = .slice (some ⟨g9, 0, none⟩) g.l.length c9 := hv9
  clear hv9
  subst hv9'
  obtain ⟨ps, hrw, hps⟩ := hb.row
  obtain ⟨p, hp, hpq⟩ := hps.at HQ.out
  have hl4 : g.l.length ≤ 4096 := by have := H.out.room; have := H.out.most1; omega
  have hvl : ∀ k, some g9 = some k → k < wc.heap.size := hb.row.lt
  have hBR : ¬ some g9 = some B := fun e => hb.ne B e rfl
  have rB : RowAt B #[.int .i64 g.most, .slice (some ⟨g9, 0, none⟩) g.l.length c9, .int .i64 g.last, .int .i64 g.sent, .int .i64 g.arr, .int .i64 g.drp, .int .i64 (wrap64 (g.dbl + 1))] 55 wc := H5.out.1.lies
  have HV := hid_of' hvl
  have HL : Hid (CsIn g9 (ix * 4) (pcv p) wc) := ⟨hvl g9 rfl, fun j u hu => by
    have := hrw.cells _ _ (pcells_at ps ix p hp j u hu)
    rwa [Nat.zero_add] at this⟩
  have HP1 : p.b.oneCell' = true := hpq.b.sl.one
  have HR : Hid (Rw 65 4 (.slice (some ⟨g9, 0, none⟩) g.l.length c9) g.l.length (pcells ps) wc ∧ g.l.length + 1 ≤ maxLen ∧ (g.l.length + 1) * 48 ≤ 140737488355328) := ⟨hrw, by unfold maxLen; omega, by omega⟩
  have HP := hid_of' (And.intro (show PsAt _ ps g.l wc from hps) hpq)
  have hki : (ix : Int) < (g.l.length : Int) := by omega
  clear hb hrw hps hvl hp hpq
  refine wp_region_once 14 (by kernel_rfl) (fun _ => none) (by kernel_rfl) (by kernel_rfl) (by decide) (fun i v x => match i with
    | 0 => v = .pointer (some ⟨B, 0, none⟩)
    | 1 => v = .pointer (some ⟨B, 0, none⟩)
    | 2 => v = .pointer (some ⟨B, 0, none⟩)
    | 3 => v = .pointer (some ⟨B, 1, none⟩)
    | 4 => v = .slice (some ⟨g9, 0, none⟩) g.l.length c9
    | 5 => v = .pointer (some ⟨B, 0, none⟩)
    | 6 => v = .pointer (some ⟨B, 0, none⟩)
    | 7 => v = .pointer (some ⟨B, 1, none⟩)
    | 8 => v = .slice (some ⟨g9, 0, none⟩) g.l.length c9
    | 9 => v = .int .i64 (ix : Int)
    | 10 => v = .pointer (some ⟨g9, ix * 4, none⟩)
    | 11 => v = .agg (pcv p)
    | 12 => ∃ gs, v = .slice (some ⟨gs, 0, none⟩) 1 1 ∧ wc.heap.size ≤ gs ∧ CsIn gs 0 (pcv p) x
    | 13 => Rw 65 4 v (g.l.length + 1) (pcells (ps ++ [p])) x ∧ At' wc (.slice (some ⟨g9, 0, none⟩) g.l.length c9) v
    | _ => True) (fun _ => false) (fun _ _ _ _ h => by cases h) 13 (by decide) (fun a b => World.grownBy a b (some g9)) (fun a b => World.grownBy a b (some g9)) (fun _ _ g h => grown_later g h) (fun _ h => grown_of h) (fun _ _ h g => grown_first h g) (fun _ _ g => g.size) ?_ ?_ ?_ ?_
  · intro i v x x' hR hb
    match i, hR with
    | 0, h => exact h
    | 1, h => exact h
    | 2, h => exact h
    | 3, h => exact h
    | 4, h => exact h
    | 5, h => exact h
    | 6, h => exact h
    | 7, h => exact h
    | 8, h => exact h
    | 9, h => exact h
    | 10, h => exact h
    | 11, h => exact h
    | 12, h => exact (by obtain ⟨gs, h1, h2, h3⟩ := h; exact ⟨gs, h1, h2, h3.later hb⟩)
    | 13, h => exact ⟨h.1.later hb, h.2⟩
    | m + 14, h => exact h
  · intro i v x x' hne hR hb
    match i, hne, hR with
    | 0, hne, h => exact h
    | 1, hne, h => exact h
    | 2, hne, h => exact h
    | 3, hne, h => exact h
    | 4, hne, h => exact h
    | 5, hne, h => exact h
    | 6, hne, h => exact h
    | 7, hne, h => exact h
    | 8, hne, h => exact h
    | 9, hne, h => exact h
    | 10, hne, h => exact h
    | 11, hne, h => exact h
    | 12, hne, h => exact (by obtain ⟨gs, h1, h2, h3⟩ := h; exact ⟨gs, h1, h2, h3.ch (grown_ch hb) (fun e => by have := HV.out gs e; omega)⟩)
    | 13, hne, h => exact absurd rfl hne
    | m + 14, _, h => exact h
  · intro i o hi ho q x vals hX hC hdep hoth
    have t0 : q.tmps[0]? = some (.pointer (some ⟨B, 0, none⟩)) := by rw [hoth 0 (by kernel_rfl)]; rfl
    have t1 : q.tmps[1]? = some (.int .i64 (ix : Int)) := by rw [hoth 1 (by kernel_rfl)]; rfl
    match i, hi, ho, hC with
    | 0, _, ho, hC =>
      simp only [List.getElem?_cons_zero, Option.some.injEq] at ho
      subst ho
      unfold Oper.wp
      simp [execOp, go_sem, t0]
      exact cameB _ rfl (by decide) (Below.refl _ _) rfl (fun h => absurd h (by decide))
    | 1, _, ho, hC =>
      simp only [List.getElem?_cons_succ, List.getElem?_cons_zero, Option.some.injEq] at ho
      subst ho
      unfold Oper.wp
      simp [execOp, go_sem, t0]
      exact cameB _ rfl (by decide) (Below.refl _ _) rfl (fun h => absurd h (by decide))
    | 2, _, ho, hC =>
      simp only [List.getElem?_cons_succ, List.getElem?_cons_zero, Option.some.injEq] at ho
      subst ho
      obtain ⟨u1, e1⟩ := hdep ⟨1, .data⟩ (by simp) rfl _ 25 rfl rfl
      rw [show vals 1 = .pointer (some ⟨B, 0, none⟩) from e1] at u1
      unfold Oper.wp
      simp [execOp, go_sem, u1]
      exact cameB _ rfl (by decide) (Below.refl _ _) rfl (fun h => absurd h (by decide))
    | 3, _, ho, hC =>
      simp only [List.getElem?_cons_succ, List.getElem?_cons_zero, Option.some.injEq] at ho
      subst ho
      obtain ⟨u2, e2⟩ := hdep ⟨2, .data⟩ (by simp) rfl _ 26 rfl rfl
      rw [show vals 2 = .pointer (some ⟨B, 0, none⟩) from e2] at u2
      unfold Oper.wp
      simp [execOp, go_sem, u2]
      exact cameB _ rfl (by decide) (Below.refl _ _) rfl (fun h => absurd h (by decide))
    | 4, _, ho, hC =>
      simp only [List.getElem?_cons_succ, List.getElem?_cons_zero, Option.some.injEq] at ho
      subst ho
      obtain ⟨u3, e3⟩ := hdep ⟨3, .data⟩ (by simp) rfl _ 27 rfl rfl
      rw [show vals 3 = .pointer (some ⟨B, 1, none⟩) from e3] at u3
      have cc : x.cell? ⟨B, 1, none⟩ = some (.slice (some ⟨g9, 0, none⟩) g.l.length c9) := (RowAt.grow rB hX hBR).cellIs 1 rfl
      unfold Oper.wp
      simp [execOp, go_sem, u3, cc]
      exact cameB _ rfl (by decide) (Below.refl _ _) rfl (fun h => absurd h (by decide))
    | 5, _, ho, hC =>
      simp only [List.getElem?_cons_succ, List.getElem?_cons_zero, Option.some.injEq] at ho
      subst ho
      unfold Oper.wp
      simp [execOp, go_sem, t0]
      exact cameB _ rfl (by decide) (Below.refl _ _) rfl (fun h => absurd h (by decide))
    | 6, _, ho, hC =>
      simp only [List.getElem?_cons_succ, List.getElem?_cons_zero, Option.some.injEq] at ho
      subst ho
      obtain ⟨u5, e5⟩ := hdep ⟨5, .data⟩ (by simp) rfl _ 29 rfl rfl
      rw [show vals 5 = .pointer (some ⟨B, 0, none⟩) from e5] at u5
      unfold Oper.wp
      simp [execOp, go_sem, u5]
      exact cameB _ rfl (by decide) (Below.refl _ _) rfl (fun h => absurd h (by decide))
    | 7, _, ho, hC =>
      simp only [List.getElem?_cons_succ, List.getElem?_cons_zero, Option.some.injEq] at ho
      subst ho
      obtain ⟨u6, e6⟩ := hdep ⟨6, .data⟩ (by simp) rfl _ 30 rfl rfl
      rw [show vals 6 = .pointer (some ⟨B, 0, none⟩) from e6] at u6
      unfold Oper.wp
      simp [execOp, go_sem, u6]
      exact cameB _ rfl (by decide) (Below.refl _ _) rfl (fun h => absurd h (by decide))
    | 8, _, ho, hC =>
      simp only [List.getElem?_cons_succ, List.getElem?_cons_zero, Option.some.injEq] at ho
      subst ho
      obtain ⟨u7, e7⟩ := hdep ⟨7, .data⟩ (by simp) rfl _ 31 rfl rfl
      rw [show vals 7 = .pointer (some ⟨B, 1, none⟩) from e7] at u7
      have cc : x.cell? ⟨B, 1, none⟩ = some (.slice (some ⟨g9, 0, none⟩) g.l.length c9) := (RowAt.grow rB hX hBR).cellIs 1 rfl
      unfold Oper.wp
      simp [execOp, go_sem, u7, cc]
      exact cameB _ rfl (by decide) (Below.refl _ _) rfl (fun h => absurd h (by decide))
    | 9, _, ho, hC =>
      simp only [List.getElem?_cons_succ, List.getElem?_cons_zero, Option.some.injEq] at ho
      subst ho
      unfold Oper.wp
      simp [execOp, go_sem, t1]
      exact cameB _ rfl (by decide) (Below.refl _ _) rfl (fun h => absurd h (by decide))
    | 10, _, ho, hC =>
      simp only [List.getElem?_cons_succ, List.getElem?_cons_zero, Option.some.injEq] at ho
      subst ho
      obtain ⟨u8, e8⟩ := hdep ⟨8, .data⟩ (by simp) rfl _ 32 rfl rfl
      rw [show vals 8 = .slice (some ⟨g9, 0, none⟩) g.l.length c9 from e8] at u8
      obtain ⟨u9, e9⟩ := hdep ⟨9, .data⟩ (by simp) rfl _ 33 rfl rfl
      rw [show vals 9 = .int .i64 (ix : Int) from e9] at u9
      unfold Oper.wp
      simp [execOp, go_sem, u8, u9, hki]
      exact cameB _ rfl (by decide) (Below.refl _ _) rfl (fun h => absurd h (by decide))
    | 11, _, ho, hC =>
      simp only [List.getElem?_cons_succ, List.getElem?_cons_zero, Option.some.injEq] at ho
      subst ho
      obtain ⟨u10, e10⟩ := hdep ⟨10, .data⟩ (by simp) rfl _ 34 rfl rfl
      rw [show vals 10 = .pointer (some ⟨g9, ix * 4, none⟩) from e10] at u10
      have hb := hC (.inr (by kernel_rfl))
      exact opw_loadP _ rfl (by simp [Act.eval, u10]) (HL.out.later hb) (cameB _ rfl (by decide) (Below.refl _ _) rfl (fun h => absurd h (by decide)))
    | 12, _, ho, hC =>
      simp only [List.getElem?_cons_succ, List.getElem?_cons_zero, Option.some.injEq] at ho
      subst ho
      obtain ⟨u11, e11⟩ := hdep ⟨11, .data⟩ (by simp) rfl _ 35 rfl rfl
      rw [show vals 11 = .agg (pcv p) from e11] at u11
      have hgx := hX.size
      refine opw_one (p := p) _ rfl (by simp [Act.eval, u11]) HP1 ?_
      exact cameB _ rfl (by decide) (below_one _ _) ⟨x.heap.size, rfl, by omega, (row_new x _ _).in⟩ (fun h => absurd h (by decide))
    | 13, _, ho, hC =>
      simp only [List.getElem?_cons_succ, List.getElem?_cons_zero, Option.some.injEq] at ho
      subst ho
      obtain ⟨u4, e4⟩ := hdep ⟨4, .data⟩ (by simp) rfl _ 28 rfl rfl
      rw [show vals 4 = .slice (some ⟨g9, 0, none⟩) g.l.length c9 from e4] at u4
      obtain ⟨u12, e12⟩ := hdep ⟨12, .data⟩ (by simp) rfl _ 36 rfl rfl
      have hb := hC (.inl rfl)
      obtain ⟨gs, e12, h2, h3⟩ : ∃ gs, vals 12 = .slice (some ⟨gs, 0, none⟩) 1 1 ∧ wc.heap.size ≤ gs ∧ CsIn gs 0 (pcv p) x := e12
      rw [e12] at u12
      refine opw_app (P := Tryd.prog) _ _ 45 rfl 65 i0 _ 4 48 Tryd.underlying45 HI.out.1 HI.out.2.1 HI.out.2.2.1 HI.out.2.2.2 rfl (by simp [Act.eval, u4]) (by simp [Act.eval, u12]) (HR.out.1.later hb) (so_one h3) (pcells_one [p] (fun p' hp => by rw [List.mem_singleton] at hp; subst hp; exact HP1)) HR.out.2.1 HR.out.2.2 ?_
      intro v' x' q1 q2 q3
      exact cameX _ rfl q2 ⟨by rw [pcells_app]; exact q1, fun k hk => (q3 k hk).elim (fun q => .inl q) (fun q => .inr (Nat.le_trans hb.size q))⟩ rfl
    | m + 14, hi, _, _ => exact absurd hi (by omega)
  · intro vals x hX hR _
    have e0 : vals 0 = .pointer (some ⟨B, 0, none⟩) := hR 0 (by decide)
    obtain ⟨q1, q2⟩ : Rw 65 4 (vals 13) (g.l.length + 1) (pcells (ps ++ [p])) x ∧ At' wc (.slice (some ⟨g9, 0, none⟩) g.l.length c9) (vals 13) := hR 13 (by decide)
    obtain ⟨xa, xc, e15, _, _⟩ := q1.form
    rw [e15] at q1 q2
    have hx := RowAt.grow rB hX hBR
    have cB := hx.cellIs 1 rfl
    have fB := hx.froz 1
    have hs3 := H5.out.2.size
    have hsB := rB.lt
    have rBy := hx.setc 1 (.slice xa (g.l.length + 1) xc)
    have hq2 : ∀ k, Value.ownBlock (.slice xa (g.l.length + 1) xc) = some k → ¬ k = B := fun k hk e => by
      rcases q2 k hk with q | q
      · exact hBR (e ▸ q)
      · omega
    have cset : Ch (fun k => k = B) x (x.setCell ⟨B, 1, none⟩ (.slice xa (g.l.length + 1) xc)) := Ch.set (S := fun k => k = B) (Ch.refl _ x) (p := ⟨B, 1, none⟩) (.inl rfl) _
    have qy := q1.ch cset hq2
    have chx : Ch (Bch B (.slice (some ⟨g9, 0, none⟩) g.l.length c9)) wc (x.setCell ⟨B, 1, none⟩ (.slice xa (g.l.length + 1) xc)) := (Ch.of (Below.refl _ _) |>.grown hX (fun k hk => .inl (.inr hk))).set (p := ⟨B, 1, none⟩) (.inl (.inl rfl)) _
    have HY := hid_of' (And.intro rBy (And.intro qy (And.intro chx q2)))
    clear rBy qy chx q2 q1 hx hR hX hq2 cset
    simp only [List.drop, List.take, putAll, List.setIfInBounds_toArray, List.set_cons_succ, List.set_cons_zero, e0, e15]
    clear e0 e15
    go_wp2
    go_ret
    have hKn : ∀ k, (K k ∧ k < wc.heap.size ∧ ¬ k = B ∧ ∀ i, Value.ownBlock (.slice (some ⟨g9, 0, none⟩) g.l.length c9) = some i → ¬ k = i) → ¬ Bch B (.slice (some ⟨g9, 0, none⟩) g.l.length c9) k := fun k hk hS => by
      rcases hS with hS | hS
      · exact hk.2.2.1 hS
      · exact hk.2.2.2 k hS rfl
    refine ⟨rfl, .slice xa (g.l.length + 1) xc, ⟨HY.out.1, ⟨ps ++ [p], ?_, ?_⟩, H.out.most0, H.out.most1, ?_⟩, ?_, ?_⟩
    · rw [show (g.l ++ [q]).length = g.l.length + 1 by simp]
      exact HY.out.2.1
    · exact ((HP.out.1.app (PsAt.one HP.out.2)).ch HY.out.2.2.1 hKn).mono (fun k hk _ => hk.1)
    · show ((g.l ++ [q]).length : Int) ≤ g.most
      rw [List.length_append, List.length_singleton]
      omega
    · exact fun k hk => (HY.out.2.2.2 k hk).elim (fun q => .inl q) (fun q => .inr (by omega))
    · exact H5.out.2.trans HY.out.2.2.1
/-- What Double answers, and the Bag behind it. -/
def dblA (g : Bg) (i : Int) : Bg × Rf := if 0 ≤ i ∧ i < (g.l.length : Int) then (if g.most ≤ (g.l.length : Int) then (g, some (bDouble, i, 12)) else ({ g with dbl := wrap64 (g.dbl + 1), l := g.l ++ [plAt g i] }, none)) else (g, some (bDouble, i, 1))
theorem double_any {ad : Nat → Addr} {B : Nat} {v : Value} {g : Bg} {K : Nat → Prop} {w : World} (L : Lb ad w) (h : BgAt B v g K w) (i : Int) :
    Calls Tryd.prog 32 #[.pointer (some ⟨B, 0, none⟩), .int .i64 i] w fun e w' => ∃ u v', e = .returned u ∧ ErrR ad w.heap.size (dblA g i).2 u w' ∧ BgAt B v' (dblA g i).1 K w' ∧ At' w v v' ∧ Ch (Bch B v) w w' := by
  unfold dblA
  rcases place_cases g i with ⟨n, q, rfl, hq, hn⟩ | hi
  · rw [if_pos ⟨by omega, by omega⟩, plAt_in hq]
    by_cases hr : g.most ≤ (g.l.length : Int)
    · rw [if_pos hr]
      exact (double_full L h hn hr).mono fun _ _ ⟨u, h1, h2, h3⟩ => ⟨u, v, h1, h2, h.later h3, At'.refl _ _, Ch.of h3⟩
    · rw [if_neg hr]
      exact (double_ok h hq (by omega)).mono fun _ _ ⟨v', h1, h2, h3, h4⟩ => ⟨_, v', h1, rfl, h2, h3, h4⟩
  · rw [if_neg (by omega)]
    exact (double_place L h hi).mono fun _ _ ⟨u, h1, h2, h3⟩ => ⟨u, v, h1, h2, h.later h3, At'.refl _ _, Ch.of h3⟩
set_option maxHeartbeats 1000000 in
theorem counts_is {B : Nat} {v : Value} {g : Bg} {K : Nat → Prop} {w : World} (h : BgAt B v g K w) :
    Calls Tryd.prog 43 #[.pointer (some ⟨B, 0, none⟩)] w fun e w' => e = .returned (.tuple #[.int .i64 g.sent, .int .i64 g.arr, .int .i64 g.drp, .int .i64 g.dbl]) ∧ Below w.heap.size w w' := by
  have c3 := h.lies.cls 3 _ rfl
  have c4 := h.lies.cls 4 _ rfl
  have c5 := h.lies.cls 5 _ rfl
  have c6 := h.lies.cls 6 _ rfl
  have hB := Below.refl w.heap.size w
  clear h
  go_enter Tryd.func43, Tryd.ntmps43
  go_upto_region 1 with fail
  refine wp_region_cls (by kernel_rfl) (by kernel_rfl) ?_
  repeat (first | go_big_quiet_skip | (go_big_quiet_want; first | (go_big_quiet_op; first | go_big_quiet_on | go_big_quiet_call ((fail)))))
  refine wpQuiet_nil ?_
  rintro w1 ⟨s1, e1⟩
  have hb1 := wOf_below s1
  rw [← e1] at hb1
  clear e1 s1
  replace hB := bgo hB hb1
  clear hb1
  go_wp2
  exact bodyPost_ret (v := .tuple #[.int .i64 g.sent, .int .i64 g.arr, .int .i64 g.drp, .int .i64 g.dbl]) (by simp [results, Tryd.results43]) rfl ⟨rfl, hB⟩
end Go.Proofs.YtdojjhhnciaegaaDoor
