
/-
  Package bag: Swap's refusals.
-/
import Derived.Test.YtbjbihgfkcnmbaaDoorBg8
namespace Go.Proofs.YtbjbihgfkcnmbaaDoor
open Go.RowKit Go.Extern.Stop Go.Stop Go.Extern
set_option maxRecDepth 100000

set_option maxHeartbeats 2000000 in
theorem swap_no1 {ad : Nat → Addr} {B : Nat} {v : Value} {g : Bg} {K : Nat → Prop} {w : World} (L : Lb ad w) (h : BgAt B v g K w) {i : Int} (j : Int) (hi : i < 0 ∨ (g.l.length : Int) ≤ i) :
    Calls Tryd.prog 24 #[.pointer (some ⟨B, 0, none⟩), .int .i64 i, .int .i64 j] w fun e w' => ∃ u, e = .returned u ∧ ErrR ad w.heap.size (some (bSwap, i, 1)) u w' ∧ Below w.heap.size w w' := by
  have HP := hid_of' (isPlace_no h i hi)
  have HF := hid_of' (newF (ad := ad) bBag bSwap i 1 w)
  have LV : w.cell? ⟨3, 0, none⟩ = some (.iface 156 (.pointer (some (ad 1)))) := L 1 (by decide)
  clear h hi L
  go_enter Tryd.func24, Tryd.ntmps24
  go_wp2
  go_loopw [12] (fun kv wr => kv = .int .i64 0 ∧ wr = w) (fun _ _ => 0)
  case atStart => exact ⟨rfl, rfl⟩
  case round =>
    obtain ⟨rfl, h0⟩ := hrel
    obtain rfl := h0.symm
    go_wp2_with (first | (refine wpL_idx0 rfl _ _ rfl rfl rfl ?_) | (go_at_call 58; refine HP.out.mono ?_; rintro e w1 ⟨rfl, h0⟩; obtain rfl := h0.symm) | (go_at_call 30; refine HF.out.mono ?_; rintro r w2 ⟨rfl, hf, hb2⟩))
    go_ret
    exact ⟨_, rfl, ⟨_, rfl, Nat.le_refl _, by decide, hf⟩, hb2⟩
set_option maxHeartbeats 2000000 in
theorem swap_no2 {ad : Nat → Addr} {B : Nat} {v : Value} {g : Bg} {K : Nat → Prop} {w : World} (L : Lb ad w) (h : BgAt B v g K w) {ix : Nat} {j : Int} (hi : ix < g.l.length) (hj : j < 0 ∨ (g.l.length : Int) ≤ j) :
    Calls Tryd.prog 24 #[.pointer (some ⟨B, 0, none⟩), .int .i64 (ix : Int), .int .i64 j] w fun e w' => ∃ u, e = .returned u ∧ ErrR ad w.heap.size (some (bSwap, j, 1)) u w' ∧ Below w.heap.size w w' := by
  have HP := hid_of' (And.intro (isPlace_yes h ix hi) (isPlace_no h j hj))
  have HF := hid_of' (newF (ad := ad) bBag bSwap j 1 w)
  have LV : w.cell? ⟨3, 0, none⟩ = some (.iface 156 (.pointer (some (ad 1)))) := L 1 (by decide)
  clear h hi hj L
  go_enter Tryd.func24, Tryd.ntmps24
  go_wp2
  go_loopw [12] (fun kv wr => ∃ k : Nat, kv = .int .i64 (k : Int) ∧ k ≤ 1 ∧ wr = w) (fun kv _ => 2 - (intOf kv).toNat)
  case atStart => exact ⟨0, rfl, by decide, rfl⟩
  case round =>
    obtain ⟨k, rfl, hk, h0⟩ := hrel
    obtain rfl := h0.symm
    match k, hk with
    | 0, _ =>
      go_wp2_with (first | (refine wpL_idx0 rfl _ _ rfl rfl rfl ?_) | (go_at_call 58; (with_reducible refine HP.out.1.mono ?_); rintro e w1 ⟨rfl, h0⟩; obtain rfl := h0.symm))
      go_roundw
      case rel => exact ⟨1, rfl, by decide, trivial⟩
      case measure => simp [intOf]
    | 1, _ =>
      go_wp2_with (first | (refine wpL_idx1 rfl _ _ rfl rfl rfl ?_) | (go_at_call 58; (with_reducible refine HP.out.2.mono ?_); rintro e w1 ⟨rfl, h0⟩; obtain rfl := h0.symm) | (go_at_call 30; refine HF.out.mono ?_; rintro r w2 ⟨rfl, hf, hb2⟩))
      go_ret
      exact ⟨_, rfl, ⟨_, rfl, Nat.le_refl _, by decide, hf⟩, hb2⟩
/-- What Swap answers, and the Bag behind it. -/
def swpA (g : Bg) (i j : Int) : Bg × Rf := if 0 ≤ i ∧ i < (g.l.length : Int) then (if 0 ≤ j ∧ j < (g.l.length : Int) then ({ g with l := swpL g.l i.toNat j.toNat (plAt g i) (plAt g j) }, none) else (g, some (bSwap, j, 1))) else (g, some (bSwap, i, 1))
theorem swap_any {ad : Nat → Addr} {B : Nat} {v : Value} {g : Bg} {K : Nat → Prop} {w : World} (L : Lb ad w) (h : BgAt B v g K w) (i j : Int) :
    Calls Tryd.prog 24 #[.pointer (some ⟨B, 0, none⟩), .int .i64 i, .int .i64 j] w fun e w' => ∃ u, e = .returned u ∧ ErrR ad w.heap.size (swpA g i j).2 u w' ∧ BgAt B v (swpA g i j).1 K w' ∧ Ch (Bch B v) w w' := by
  unfold swpA
  rcases place_cases g i with ⟨n, q, rfl, hq, hn⟩ | hi
  · rw [if_pos ⟨by omega, by omega⟩, plAt_in hq]
    rcases place_cases g j with ⟨m, r, rfl, hr, hm⟩ | hj
    · rw [if_pos ⟨by omega, by omega⟩, plAt_in hr, Int.toNat_natCast, Int.toNat_natCast]
      exact (swap_ok h hq hr).mono fun _ _ ⟨h1, h2, h3⟩ => ⟨_, h1, rfl, h2, h3⟩
    · rw [if_neg (by omega)]
      exact (swap_no2 L h hn hj).mono fun _ _ ⟨u, h1, h2, h3⟩ => ⟨u, h1, h2, h.later h3, Ch.of h3⟩
  · rw [if_neg (by omega)]
    exact (swap_no1 L h j hi).mono fun _ _ ⟨u, h1, h2, h3⟩ => ⟨u, h1, h2, h.later h3, Ch.of h3⟩
end Go.Proofs.YtbjbihgfkcnmbaaDoor
