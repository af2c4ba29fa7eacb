
/-
  barrowlaw10.BagSums.
-/
import Derived.Test.YtdojjhhnciaegaaDoorZb25
namespace Go.Proofs.YtdojjhhnciaegaaDoor
open Go.RowKit Go.Extern.Stop Go.Stop Go.Extern
set_option maxRecDepth 100000

theorem Rw.some {e : TypeId} {size n c : Nat} {a : Option Addr} {xs : List Value} {w : World} (h : Rw e size (.slice a n c) n xs w) (hn : 0 < n) : ∃ g, a = some ⟨g, 0, none⟩ := by
  rcases h.2 with ⟨_, q⟩ | ⟨g, cap, cur, q, _⟩
  · omega
  · cases q
    exact ⟨g, rfl⟩
theorem SmG.drpG {k : Nat} {g : Bg} {qs : List Pl} {ms : List Int} (h : SmG k g qs ms) (hk : k ≤ 1000) (i : Int) : SmG (k + 1) (drpG g i) qs ms := by
  rcases place_cases g i with ⟨n, q, rfl, hq, hn⟩ | hi
  · rw [drpG_in hn]; exact h.drop hk hq
  · rw [drpG_out hi]; exact h.mono
theorem SmG.swpA {k : Nat} {g : Bg} {qs : List Pl} {ms : List Int} (h : SmG k g qs ms) (i j : Int) : SmG (k + 1) (swpA g i j).1 qs ms := by
  unfold Go.Proofs.YtdojjhhnciaegaaDoor.swpA
  rcases place_cases g i with ⟨n, q, rfl, hq, hn⟩ | hi
  · rw [if_pos ⟨by omega, by omega⟩, plAt_in hq]
    rcases place_cases g j with ⟨m, r, rfl, hr, hm⟩ | hj
    · rw [if_pos ⟨by omega, by omega⟩, plAt_in hr, Int.toNat_natCast, Int.toNat_natCast]
      exact h.swap hq hr
    · rw [if_neg (by omega)]; exact h.mono
  · rw [if_neg (by omega)]; exact h.mono
theorem ErrR.mono {ad : Nat → Addr} {M M' : Nat} {o : Rf} {v : Value} {w : World} (h : ErrR ad M o v w) (hM : M' ≤ M) : ErrR ad M' o v w := by
  match o, h with
  | none, h => exact h
  | some (_, _, _), ⟨b, h1, h2, h3, h4⟩ => exact ⟨b, h1, by omega, h3, h4⟩
/-- What Send answers. -/
def SndQ (ad : Nat → Addr) (B : Nat) (M : World) (vb : Value) (N : Nat) (a : Bg × Int × Rf) (v : Value) (x : World) : Prop := ∃ u v', v = .tuple #[.int .i64 a.2.1, u] ∧ ErrR ad M.heap.size a.2.2 u x ∧ BgAt B v' a.1 (fun k => N ≤ k) x ∧ At' M vb v'
theorem SndQ.later {ad : Nat → Addr} {B : Nat} {M : World} {vb : Value} {N : Nat} {a : Bg × Int × Rf} {v : Value} {x x' : World} (h : SndQ ad B M vb N a v x) (hb : Below x.heap.size x x') : SndQ ad B M vb N a v x' := by
  obtain ⟨u, v', h1, h2, h3, h4⟩ := h
  exact ⟨u, v', h1, h2.later hb, h3.later hb, h4⟩
theorem SndQ.err {ad : Nat → Addr} {B : Nat} {M : World} {vb : Value} {N : Nat} {a : Bg × Int × Rf} {v : Value} {x : World} (h : SndQ ad B M vb N a v x) : ∃ u, v = .tuple #[.int .i64 a.2.1, u] ∧ ErrR ad M.heap.size a.2.2 u x := by
  obtain ⟨u, v', h1, h2, _⟩ := h
  exact ⟨u, h1, h2⟩
theorem sndA_ok {g : Bg} {f t : Int} {raw : List UInt8} (h : (sndA g f t raw).2.2 = none) : (sndA g f t raw).1 = sndG g f t raw ∧ (sndA g f t raw).2.1 = wrap64 (g.last + 1) := by
  unfold sndA at h ⊢
  cases he : endsB f t
  · rw [he, if_neg (by decide)] at h; cases h
  · rw [he, if_pos rfl] at h
    rw [if_pos rfl]
    by_cases hr : g.most ≤ (g.l.length : Int)
    · rw [if_pos hr] at h; cases h
    · rw [if_neg hr]; exact ⟨rfl, rfl⟩
theorem SmG.sndA0 {k : Nat} {g : Bg} {qs : List Pl} {ms : List Int} (h : SmG k g qs ms) (hk : k ≤ 1000) (f t : Int) (raw : List UInt8) (hn : ∃ r, (sndA g f t raw).2.2 = some r) : SmG (k + 1) (sndA g f t raw).1 qs ms := by
  obtain ⟨r, hn⟩ := hn
  unfold sndA at hn ⊢
  cases he : endsB f t
  · rw [if_neg (by decide)]; exact h.mono
  · rw [he, if_pos rfl] at hn
    rw [if_pos rfl]
    by_cases hr : g.most ≤ (g.l.length : Int)
    · rw [if_pos hr]; exact h.full hk
    · rw [if_neg hr] at hn; cases hn
end Go.Proofs.YtdojjhhnciaegaaDoor
