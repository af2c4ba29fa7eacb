
/-
  diff.Common.
-/
import Derived.Test.YtaimmjoekahleaaDoorZa25
namespace Go.Proofs.YtaimmjoekahleaaDoor
open Go.RowKit Go.Extern.Stop Go.Stop Go.Extern
set_option maxRecDepth 100000

theorem kp_fits {xs ys : List Int} (h : xs = [] ∨ ys = [] ∨ xs.length + ys.length ≤ 8388608) : (kp 0 0 xs ys).length ≤ 8388608 := by
  rcases h with rfl | rfl | h
  · rw [kp_nil]
    exact Nat.zero_le _
  · rw [kp_nilr]
    exact Nat.zero_le _
  · have := kp_len _ 0 0 xs ys (Nat.le_refl _)
    omega
end Go.Proofs.YtaimmjoekahleaaDoor
