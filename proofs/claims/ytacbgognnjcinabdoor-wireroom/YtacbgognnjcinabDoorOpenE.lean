/-
  The handle of the type error, from the row's condition.
-/
import Derived.Test.YtacbgognnjcinabDoorOpenW
import Derived.Test.YtacbgognnjcinabDoorChain1
namespace Go.Proofs.YtacbgognnjcinabDoor
open Go.ChangeShapes Go.WideShapes Go.ChangeAt Go.RowKit
set_option maxRecDepth 100000

theorem etName : Tryd.prog.globalNamed "errors.errorType" = some 14 := by kernel_rfl
theorem rtOf : (Tryd.prog.cutTypes.find? (·.1 == "internal/reflectlite.rtype")).map (·.2) = some 124 := by kernel_rfl
theorem oneRow : ((List.range 200).filter fun t => Tryd.prog.rowNamed t [101, 114, 114, 111, 114]) = [27] := by kernel_rfl
theorem typesSize : Tryd.prog.types.size = 200 := by kernel_rfl
theorem handleIs : typeHandle Tryd.prog 27 = .pointer (some ⟨18, 27, none⟩) := by kernel_rfl


theorem et_of {W : World} (hh : handlesMet Tryd.prog [("errors.errorType", .iface "internal/reflectlite.rtype" (.agg [.ptr (.lit (.string [101, 114, 114, 111, 114]))]))] W) : EtAt W := by
  obtain ⟨name, u, ty, e1, e2, e3, e4, e5⟩ := hh _ (List.mem_singleton.2 rfl)
  have en : name = [101, 114, 114, 111, 114] := (Option.some.inj e1).symm
  subst en
  obtain rfl := Option.some.inj (rtOf.symm.trans e2)
  have hm : ty ∈ (List.range 200).filter fun t => Tryd.prog.rowNamed t [101, 114, 114, 111, 114] := List.mem_filter.2 ⟨List.mem_range.2 (by rw [← typesSize]; exact e3), e4⟩
  rw [oneRow] at hm
  obtain rfl := List.mem_singleton.1 hm
  rw [handleIs] at e5
  simpa [EtAt] using World.var?_cell etName e5 0
end Go.Proofs.YtacbgognnjcinabDoor
