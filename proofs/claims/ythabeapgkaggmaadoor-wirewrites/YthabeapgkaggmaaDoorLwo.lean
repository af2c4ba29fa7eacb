
/-
  What the listed variables hold, as the Writer and the Reader want it.
-/
import Derived.Test.YthabeapgkaggmaaDoorRf2
import Derived.Test.YthabeapgkaggmaaDoorTsRefuse
import Derived.Test.YthabeapgkaggmaaDoorRd4
import Derived.Test.YthabeapgkaggmaaDoorWk
namespace Go.Proofs.YthabeapgkaggmaaDoor
open Go.RowKit
set_option maxRecDepth 100000

theorem lwOf {ad : Nat → Addr} {w : World} (L : Laid ad w) : Lw ad w := by
  refine ⟨fun k hk => ?_, ?_⟩
  · rcases hk with rfl | rfl | rfl | rfl
    · exact L.var 0 (by decide)
    · exact L.var 1 (by decide)
    · exact L.var 5 (by decide)
    · exact L.var 6 (by decide)
  · have h0 := lt_of_cell (L.var 0 (by decide))
    have h1 := lt_of_cell (L.var 1 (by decide))
    have h5 := lt_of_cell (L.var 5 (by decide))
    have h6 := lt_of_cell (L.var 6 (by decide))
    simp only [gix] at h0 h1 h5 h6
    omega
end Go.Proofs.YthabeapgkaggmaaDoor
