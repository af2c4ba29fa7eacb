
/-
  clip, and that what it answers lies within its room.
-/
import Derived.Test.YtfiajbgeijgheaaDoorWk
namespace Go.Proofs.YtfiajbgeijgheaaDoor
open Go.RowKit
set_option maxRecDepth 100000

/-- clip: at most 4000 bytes. -/
theorem clip_cap {w : World} {v : Value} {bs : List UInt8} (h : SlB w v bs) (hc : ∀ a n c, v = .slice a n c → n ≤ c) :
    Calls Tryd.prog 20 #[v] w fun e w' => ∃ u, e = .returned u ∧ SlB w u (bs.take 4000) ∧ (∀ a n c, u = .slice a n c → n ≤ c) ∧ w' = w := by
  by_cases hl : (4000 : Int) < (bs.length : Int)
  · rcases h with ⟨rfl, _⟩ | ⟨g, o, c, rfl, hg, hcl⟩
    · simp at hl
    · have hcap : (4000 : Int) ≤ (c : Int) := by have := hc _ _ _ rfl; omega
      have hc0 : ¬ c = 0 := by omega
      have HC : Aside (g < w.heap.size ∧ ∀ i b, bs[i]? = some b → w.cell? ⟨g, o + i, none⟩ = some (.int .u8 b.toNat)) := ⟨hg, hcl⟩
      clear hcl hc
      go_enter Tryd.func20, Tryd.ntmps20
      go_wp2
      go_ret
      refine ⟨_, rfl, .inr ⟨g, o, c, ?_, HC.out.1, fun i b hi => HC.out.2 i b ?_⟩, fun a' n' c' he => by cases he; omega, rfl⟩
      · have : (bs.take 4000).length = 4000 := by simp; omega
        rw [this]; rfl
      · rw [List.getElem?_take] at hi; split at hi
        · exact hi
        · cases hi
  · obtain ⟨a, c, rfl⟩ : ∃ a c, v = .slice a bs.length c := by
      rcases h with ⟨rfl, a, c, rfl⟩ | ⟨g, o, c, rfl, _⟩
      · exact ⟨a, c, rfl⟩
      · exact ⟨_, c, rfl⟩
    have HH : Aside (SlB w (.slice a bs.length c) (bs.take 4000)) := by rw [List.take_of_length_le (by omega)]; exact h
    have HK : Aside (bs.length ≤ c) := hc _ _ _ rfl
    clear h hc
    go_enter Tryd.func20, Tryd.ntmps20
    go_wp2
    go_ret
    exact ⟨_, rfl, HH.out, fun a' n' c' he => by cases he; exact HK.out, rfl⟩
end Go.Proofs.YtfiajbgeijgheaaDoor
