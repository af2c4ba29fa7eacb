
/-
  barrowlaw07.XformT: T of any two operations.
-/
import Derived.Test.YtdihbgmjnfpppaaGreatDoorXf7
import Derived.Test.YtdihbgmjnfpppaaGreatDoorXf2
namespace Go.Proofs.YtdihbgmjnfpppaaGreatDoor
open Go.RowKit
set_option maxRecDepth 100000

/-- Numbers of Go's int. -/
def Xo.In (o : Xo) : Prop := In64 o.k ∧ In64 o.p ∧ In64 o.r
theorem eq_O (o : Xo) (w : World) : (Op.equalIn 10000 40 (.agg (ov o)) (.agg (ov o))).run Tryz.prog w = .ok true w := by
  unfold ov
  simp [go_sem]
theorem SlO.some {w : World} {a : Option Addr} {c : Nat} {l : List Xo} (h : SlO w (.slice a l.length c) l) (h0 : 0 < l.length) : ∃ g o_, a = Option.some ⟨g, o_, none⟩ ∧ OsAt g o_ l w := by
  rcases h with ⟨h, _⟩ | ⟨g, o_, c', hv, hc⟩
  · subst h; simp at h0
  · simp only [Value.slice.injEq] at hv
    exact ⟨g, o_, hv.1, hc⟩

end Go.Proofs.YtdihbgmjnfpppaaGreatDoor
