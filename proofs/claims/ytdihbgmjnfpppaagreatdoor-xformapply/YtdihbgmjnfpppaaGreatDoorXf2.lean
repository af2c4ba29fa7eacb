
/-
  barrowref07.T: an operation as it must be behind another one, by the document.
-/
import Derived.Test.YtdihbgmjnfpppaaGreatDoorXfA
namespace Go.Proofs.YtdihbgmjnfpppaaGreatDoor
open Go.RowKit
set_option maxRecDepth 100000

end Go.Proofs.YtdihbgmjnfpppaaGreatDoor
